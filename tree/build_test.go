package tree

import (
	"math"
	"slices"
	"strings"
	"testing"

	"gabarit/api"
)

func start(local string, l ...api.Attr) api.Event {
	return api.Event{Kind: api.EvStart, Name: nm("", local), Attrs: l}
}

func text(s string) api.Event { return api.Event{Kind: api.EvText, Text: s} }

func end() api.Event { return api.Event{Kind: api.EvEnd} }

func times(n int, l ...api.Event) []api.Event { return slices.Repeat(l, n) }

// builds checks what Build returns, also with other values of At, and with lists that are not nil.
func builds(t *testing.T, l []api.Event, want api.Node, index int, wrong api.Errno) {
	t.Helper()
	other := slices.Clone(l)
	for i := range other {
		other[i].At = []int{-1, 7, math.MaxInt, math.MinInt}[i%4]
		if len(other[i].Attrs) == 0 {
			other[i].Attrs = []api.Attr{}
		}
	}
	for _, l := range [][]api.Event{l, other} {
		n, i, e := Build(l)
		if i != index {
			t.Errorf("Build of %d events: at %d, not %d\n%.200s", len(l), i, index, showEvents(l))
		}
		is(t, "Build of\n"+showEvents(l), n, e, want, wrong)
	}
}

func TestBuild(t *testing.T) { // P4.2
	a, x := start("a"), at("x", "1")
	builds(t, []api.Event{a, end()}, el("a"), 0, api.OK)
	builds(t, []api.Event{a, text("t"), end()}, el("a", tx("t")), 0, api.OK)
	builds(t, []api.Event{start("a", x), text("t"), start("b"), end(), text("u"), end()}, d(), 0, api.OK)
	builds(t, []api.Event{a, a, a, end(), a, text("t"), end(), end(), a, end(), end()}, el("a", el("a", el("a"), el("a", tx("t"))), el("a")), 0, api.OK)
	builds(t, []api.Event{a, text("t"), a, text("t"), end(), text("t"), a, end(), text("t"), end()}, el("a", tx("t"), el("a", tx("t")), tx("t"), el("a"), tx("t")), 0, api.OK)
	named := api.Event{Kind: api.EvStart, Name: nm("u", "a"), Attrs: []api.Attr{x, {Name: nm("u", "xmlns"), Value: "\t"}}}
	builds(t, []api.Event{named, end()}, api.Node{Kind: api.NdElement, Name: nm("u", "a"), Attrs: named.Attrs}, 0, api.OK)
}

// TestWrongEvent puts events that are wrong by themselves at places where others may stand.
func TestWrongEvent(t *testing.T) { // P4.2
	x := at("x", "1")
	wrong := []api.Event{
		{}, {Kind: 4}, {Kind: -1}, {Kind: math.MaxInt}, {Name: nm("", "a")}, {Kind: 4, Text: "t"},
		{Kind: api.EvStart}, start(""), start("a b"), start("p:a"), start("\xff"), start(long(201)), {Kind: api.EvStart, Name: nm("\xff", "a")}, {Kind: api.EvStart, Name: nm(long(201), "a")}, {Kind: api.EvStart, Name: nm("u", "")},
		{Kind: api.EvStart, Name: nm("", "a"), Text: "t"}, {Kind: api.EvStart, Name: nm("", "a"), Text: "\xff"},
		start("a", at("xmlns", "")), start("a", at("", "")), start("a", at("x", "\xff")), start("a", at("x y", "")), start("a", x, x), start("a", x, at("x", "2")), start("a", at("y", ""), x), start("a", api.Attr{Name: nm("u", "x")}, x), start("a", api.Attr{Name: nm(long(201), "x")}),
		text(""), text("\xff"), text("t\x00"), {Kind: api.EvText, Text: "t", Name: nm("", "a")}, {Kind: api.EvText, Text: "t", Name: nm("u", "")}, {Kind: api.EvText, Text: "t", Attrs: []api.Attr{x}}, {Kind: api.EvText, Text: "t", Attrs: []api.Attr{{}}},
		{Kind: api.EvEnd, Text: "t"}, {Kind: api.EvEnd, Name: nm("", "a")}, {Kind: api.EvEnd, Name: nm("u", "")}, {Kind: api.EvEnd, Attrs: []api.Attr{x}}, {Kind: api.EvEnd, Attrs: []api.Attr{{}}},
	}
	a := start("a")
	for _, before := range [][]api.Event{nil, {a}, {a, text("t")}, {a, a, end()}, {a, end()}, times(40, a), append([]api.Event{a}, times(299, a, end())...)} {
		for _, e := range wrong {
			for _, behind := range [][]api.Event{nil, {end()}, {end(), end()}, {{}}, {a, end(), end()}} {
				builds(t, slices.Concat(before, []api.Event{e}, behind), api.Node{}, len(before), api.ErrForm)
			}
		}
	}
}

// TestEventsThatCannotFollow has events that are right by themselves.
func TestEventsThatCannotFollow(t *testing.T) { // P4.2
	a := start("a")
	for _, c := range []struct {
		l     []api.Event
		index int
	}{
		{nil, 0}, {[]api.Event{}, 0}, {[]api.Event{text("t")}, 0}, {[]api.Event{text(" "), a, end()}, 0}, {[]api.Event{end()}, 0}, {[]api.Event{end(), a, end()}, 0},
		{[]api.Event{a}, 1}, {[]api.Event{a, text("t")}, 2}, {[]api.Event{a, a, end()}, 3}, {times(40, a), 40}, {append(times(40, a), times(39, end())...), 79}, {append([]api.Event{a}, times(299, a, end())...), 599},
		{[]api.Event{a, text("t"), text("u"), end()}, 2}, {[]api.Event{a, a, end(), text("t"), text("t")}, 4}, {[]api.Event{a, text(" "), text("\n"), end()}, 2},
		{[]api.Event{a, end(), end()}, 2}, {[]api.Event{a, end(), a}, 2}, {[]api.Event{a, end(), a, end()}, 2}, {[]api.Event{a, end(), text("\n")}, 2}, {[]api.Event{a, a, end(), end(), end()}, 4},
	} {
		builds(t, c.l, api.Node{}, c.index, api.ErrForm)
	}
}

func TestBuildLimits(t *testing.T) { // P4.2
	a := start("a")
	full := slices.Concat([]api.Event{a}, times(299, a, end()))
	one := slices.Clip(full[:1+2*298]) // one node is left
	full = slices.Clip(full)
	builds(t, append(full, end()), wide(299, el("a")), 0, api.OK)
	builds(t, append(one, text("t"), end()), el("a", append(wide(298, el("a")).Kids, tx("t"))...), 0, api.OK)
	builds(t, append(times(40, a), times(40, end())...), nested(40, el("a")), 0, api.OK)
	builds(t, slices.Concat(times(40, a), []api.Event{text("t")}, times(40, end())), nested(40, el("a"), tx("t")), 0, api.OK)
	builds(t, []api.Event{start("a", attributes(299)...), end()}, with(el("a"), attributes(299)...), 0, api.OK)
	for _, c := range []struct {
		before []api.Event
		e      api.Event
	}{
		{full, a}, {full, text("t")}, {one, start("a", at("x", ""))}, {append(one, text("t")), a}, {append(one, a), text("t")}, {append(one, a, end()), text("t")}, {nil, start("a", attributes(300)...)}, {nil, start("a", attributes(1000)...)},
		{[]api.Event{start("a", attributes(299)...)}, a}, {[]api.Event{start("a", attributes(299)...)}, text("t")}, {[]api.Event{start("a", attributes(150)...)}, start("a", attributes(149)...)},
		{times(40, a), a}, {append(times(40, a), text("t")), a}, {append(times(40, a), end(), a), a}, {slices.Concat(times(40, a), times(39, end()), times(39, a)), a},
	} {
		for _, behind := range [][]api.Event{nil, {end()}, {{}}, {text("t"), text("t")}, times(600, end())} {
			builds(t, slices.Concat(c.before, []api.Event{c.e}, behind), api.Node{}, len(c.before), api.ErrLong)
		}
	}
	// events that are wrong in both ways
	for _, c := range []struct {
		before []api.Event
		e      api.Event
	}{
		{times(40, a), start("")}, {times(40, a), start("a", at("xmlns", ""))}, {full, start("a b")}, {full, text("")}, {full, api.Event{Kind: api.EvText, Text: "t", Name: nm("", "a")}}, {append(one, text("t")), text("t")}, {append(full, end()), a}, {append(full, end()), text("t")},
		{nil, start("a", append(attributes(300), at("a", ""))...)}, {nil, start("", attributes(300)...)}, {append(times(40, a), times(40, end())...), a}, {times(40, a), api.Event{Kind: api.EvStart, Name: nm("", "a"), Text: "t"}},
	} {
		builds(t, append(slices.Clip(c.before), c.e), api.Node{}, len(c.before), api.ErrForm)
	}
}

// events are events of which those of a document are the beginning, or with a change, or any.
func (d *dice) events() []api.Event {
	var l []api.Event
	switch d.below(5) {
	case 0:
		for range d.below(8) {
			l = append(l, d.event())
		}
		return l
	case 1:
		l = times(35+d.below(6), start("d"))
	case 2:
		l = append([]api.Event{start("m")}, times(285+d.below(14), start("b"), end())...)
	}
	from := len(l)
	l = append(l, modelEvents(d.element(3))...)
	for range d.below(3) {
		i := from + d.below(len(l)-from+1)
		switch d.below(4) {
		case 0:
			l = slices.Insert(l, i, d.event())
		case 1:
			l = slices.Delete(l, i, min(i+1, len(l)))
		case 2:
			l = l[:i]
		case 3:
			l = append(l[:i:i], append([]api.Event{d.event()}, l[min(i+1, len(l)):]...)...)
		}
		from = min(from, len(l))
	}
	return append(l, times([]int{0, 1, from, 41}[d.below(4)], end())...)
}

func (d *dice) event() api.Event {
	e := []api.Event{start("a", d.attrs()...), start("a"), text("t"), text(d.text()), end(), end(), start(d.of("", "a b", "\xff", "a")), start("a", append(d.attrs(), d.attrs()...)...), {Kind: d.below(6) - 1}}[d.below(9)]
	switch {
	case d.rare():
		e.Text = d.text()
	case d.rare():
		e.Name = d.name()
	case d.rare():
		e.Attrs = d.attrs()
	}
	e.At = d.below(9) - 4
	return e
}

func TestBuildAgrees(t *testing.T) { // P4.2
	d, met := dice(5), map[api.Errno]int{}
	for range 4000 {
		l := d.events()
		want, index, wrong := modelBuild(l)
		n, i, e := Build(l)
		if show(n) != show(want) || i != index || e != wrong {
			t.Fatalf("Build: %d at %d, not %d at %d: %s\n%s", e, i, wrong, index, show(n), showEvents(l))
		}
		if e == api.OK && modelCheck(n) != api.OK {
			t.Fatalf("Build returns %s, which is no document", show(n))
		}
		met[e]++
	}
	if met[api.OK] < 500 || met[api.ErrForm] < 500 || met[api.ErrLong] < 200 {
		t.Errorf("%v", met)
	}
}

func TestEvents(t *testing.T) { // P4.2
	same := func(n api.Node, want ...api.Event) {
		t.Helper()
		l, e := Events(n)
		if showEvents(l) != showEvents(want) || e != api.OK {
			t.Errorf("Events of %s: %d\n%s", show(n), e, showEvents(l))
		}
		for _, x := range l {
			if x.At != 0 {
				t.Errorf("Events of %s: At %d", show(n), x.At)
			}
		}
	}
	x := at("x", "1")
	same(el("a"), start("a"), end())
	same(d(), start("a", x), text("t"), start("b"), end(), text("u"), end())
	same(el("a", el("b", with(el("c", tx(" ")), x, at("y", "")), el("d")), tx("t")), start("a"), start("b"), start("c", x, at("y", "")), text(" "), end(), start("d"), end(), end(), text("t"), end())
	same(nested(40, el("a"), tx("t")), slices.Concat(times(40, start("a")), []api.Event{text("t")}, times(40, end()))...)
	d := dice(6)
	for range 500 {
		if n := d.document(); modelCheck(n) == api.OK {
			same(n, modelEvents(n)...)
		}
	}
}

func TestParse(t *testing.T) { // P4.3
	for s, want := range map[string]api.Node{
		"<a/>":                                el("a"),
		"<a></a>":                             el("a"),
		"<a x='1'>t<b/>u</a>":                 d(),
		" <!-- c --><a>t<!-- c -->&lt;</a>\n": el("a", tx("t<")),
		"<a y='' x='\n'/>":                    with(el("a"), at("x", " "), at("y", "")),
		"<a> <b/>\n</a>":                      el("a", tx(" "), el("b"), tx("\n")),
		"<a><![CDATA[]]></a>":                 el("a"),
		"<a xmlns='u'><b xmlns='' xml:x=''/></a>":              {Kind: api.NdElement, Name: nm("u", "a"), Kids: []api.Node{{Kind: api.NdElement, Name: nm("", "b"), Attrs: []api.Attr{{Name: nm("xml", "x")}}}}},
		"<a>" + strings.Repeat("<b/>", 299) + "</a>":           wide(299, el("b")),
		strings.Repeat("<a>", 40) + strings.Repeat("</a>", 40): nested(40, el("a")),
	} {
		n, place, e := Parse(s)
		if place != 0 {
			t.Errorf("Parse of %s: at %d", s, place)
		}
		is(t, "Parse of "+s, n, e, want, api.OK)
	}
	for _, c := range []struct {
		s     string
		place int
		e     api.Errno
	}{
		{"", 0, api.ErrEnd}, {"<a>", 3, api.ErrEnd}, {"<a></b>", 3, api.ErrTag}, {"<a/>b", 4, api.ErrSyntax}, {"<a x='' x=''/>", 8, api.ErrAttr}, {"<p:a/>", 0, api.ErrPrefix}, {"<a>&b;</a>", 3, api.ErrEntity}, {"<a>\xff</a>", 3, api.ErrForm},
		{"<a>" + strings.Repeat("<b/>", 300) + "</a>", 3 + 4*299, api.ErrLong}, {strings.Repeat("<a>", 41), 120, api.ErrLong}, {"<" + long(201) + "/>", 0, api.ErrLong}, {strings.Repeat(" ", 60001), 60000, api.ErrLong},
	} {
		n, place, e := Parse(c.s)
		if place != c.place {
			t.Errorf("Parse of %.60s: at %d", c.s, place)
		}
		is(t, "Parse of "+c.s, n, e, api.Node{}, c.e)
	}
}
