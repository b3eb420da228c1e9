package tree

import (
	"fmt"
	"math"
	"slices"
	"strings"
	"testing"

	"gabarit/api"
)

func long(n int) string { return strings.Repeat("n", n) }

// nodes are nodes, with the error of Check.
func nodes() []struct {
	n api.Node
	e api.Errno
} {
	a, x := el("a"), at("x", "")
	in := func(space, local string) api.Node { return api.Node{Kind: api.NdElement, Name: nm(space, local)} }
	kind := func(k int) api.Node { return api.Node{Kind: k, Name: nm("", "a")} }
	text := func(t api.Node) api.Node {
		t.Kind, t.Text = api.NdText, "t"
		return t
	}
	return []struct {
		n api.Node
		e api.Errno
	}{
		// elements
		{a, api.OK}, {d(), api.OK}, {api.Node{Kind: api.NdElement, Name: nm("", "a"), Attrs: []api.Attr{}, Kids: []api.Node{}}, api.OK},
		{in("u", "a"), api.OK}, {in("xml", "xml"), api.OK}, {in("xmlns", "xmlns"), api.OK}, {in("", "xmlns"), api.OK}, {in(" \"<&>\r\n", "\u00e4.-1"), api.OK},
		{in("", ""), api.ErrArg}, {in("u", ""), api.ErrArg}, {in("", "a b"), api.ErrArg}, {in("", "p:a"), api.ErrArg}, {in("", "1"), api.ErrArg}, {in("", "a\xff"), api.ErrArg}, {in("\xff", "a"), api.ErrArg}, {in("u\x00", "a"), api.ErrArg},
		{in("", long(200)), api.OK}, {in("", long(201)), api.ErrArg}, {in(long(200), "a"), api.OK}, {in(long(201), "a"), api.ErrArg},
		{in(strings.Repeat("\u00e4", 100), "a"), api.OK}, {in(strings.Repeat("\u00e4", 101), "a"), api.ErrArg},
		{api.Node{Kind: api.NdElement, Name: nm("", "a"), Text: "t"}, api.ErrArg},
		// attributes
		{with(a, x), api.OK}, {with(a, at("x", "\t<\"\U0010ffff")), api.OK}, {with(a, at("x", strings.Repeat("v", 70000))), api.OK}, {with(a, at("x", "\xff")), api.ErrArg}, {with(a, at("x", "\x01")), api.ErrArg},
		{with(a, at("", "")), api.ErrArg}, {with(a, at("p:x", "")), api.ErrArg}, {with(a, at(long(200), "")), api.OK}, {with(a, at(long(201), "")), api.ErrArg},
		{with(a, api.Attr{Name: nm(long(200), "x")}), api.OK}, {with(a, api.Attr{Name: nm(long(201), "x")}), api.ErrArg}, {with(a, api.Attr{Name: nm("\xff", "x")}), api.ErrArg},
		{with(a, at("xmlns", "u")), api.ErrArg}, {with(a, api.Attr{Name: nm("u", "xmlns")}), api.OK}, {with(a, at("xml", "")), api.OK}, {with(a, at("w", ""), at("xmlns", "")), api.ErrArg},
		{with(a, x, at("y", "")), api.OK}, {with(a, at("y", ""), x), api.ErrArg}, {with(a, x, x), api.ErrArg}, {with(a, x, at("x", "2")), api.ErrArg}, {with(a, at("w", ""), x, x), api.ErrArg},
		{with(a, at("z", ""), api.Attr{Name: nm("u", "a")}), api.OK}, {with(a, api.Attr{Name: nm("u", "a")}, at("z", "")), api.ErrArg}, {with(a, at("x", ""), api.Attr{Name: nm("u", "x")}), api.OK},
		// kids
		{el("a", a, a), api.OK}, {el("a", tx("t"), a, tx("t")), api.OK}, {el("a", tx("t"), tx("u")), api.ErrArg}, {el("a", a, tx("t"), tx("u"), a), api.ErrArg}, {el("a", tx("")), api.ErrArg}, {el("a", el("b", el("c d"))), api.ErrArg},
		// texts
		{tx("t"), api.OK}, {tx(" "), api.OK}, {tx("<&>\r\ufffd"), api.OK}, {tx(strings.Repeat("t", 70000)), api.OK}, {tx(""), api.ErrArg}, {tx("\xff"), api.ErrArg}, {tx("t\x00"), api.ErrArg}, {tx("\ufffe"), api.ErrArg}, {tx("\xed\xa0\x80"), api.ErrArg},
		{text(api.Node{Attrs: []api.Attr{}, Kids: []api.Node{}}), api.OK}, {text(in("", "a")), api.ErrArg}, {text(in("u", "")), api.ErrArg}, {text(with(api.Node{}, x)), api.ErrArg}, {text(api.Node{Kids: []api.Node{a}}), api.ErrArg},
		// kinds that are none
		{api.Node{}, api.ErrArg}, {kind(0), api.ErrArg}, {kind(3), api.ErrArg}, {kind(-1), api.ErrArg}, {kind(math.MaxInt), api.ErrArg}, {el("a", kind(3)), api.ErrArg},
		// sizes
		{wide(299, a), api.OK}, {wide(300, a), api.ErrLong}, {with(a, attributes(299)...), api.OK}, {with(a, attributes(300)...), api.ErrLong}, {with(wide(200, a), attributes(99)...), api.OK}, {with(wide(200, a), attributes(100)...), api.ErrLong},
		{wide(149, with(a, x)), api.OK}, {wide(150, with(a, x)), api.ErrLong}, {wide(99, el("b", tx("t"), a)), api.OK}, {wide(100, el("b", tx("t"), a)), api.ErrLong},
		{wide(299, api.Node{}), api.ErrArg}, {wide(300, api.Node{}), api.ErrLong}, {wide(300, tx("")), api.ErrLong}, {wide(299, tx("")), api.ErrArg}, {text(with(api.Node{}, attributes(300)...)), api.ErrLong}, {text(with(api.Node{}, attributes(299)...)), api.ErrArg}, {with(a, slices.Repeat([]api.Attr{x}, 300)...), api.ErrLong},
		// depths
		{nested(40, a), api.OK}, {nested(41, a), api.ErrLong}, {nested(40, a, tx("t")), api.OK}, {el("a", nested(39, a), nested(39, a)), api.OK}, {el("a", nested(39, a), nested(40, a)), api.ErrLong}, {el("a", nested(40, a), nested(39, a)), api.ErrLong},
		{nested(40, kind(0)), api.ErrArg}, {nested(41, kind(0)), api.ErrLong}, {nested(40, a, kind(3)), api.ErrLong}, {nested(39, a, kind(3)), api.ErrArg}, {nested(40, a, nested(2, tx("t"))), api.ErrArg},
		{nested(300, tx("t")), api.ErrArg}, {nested(301, tx("t")), api.ErrLong}, {nested(20, a, nested(3, tx("t"), nested(20, a))), api.ErrArg}, {nested(20, a, nested(3, tx("t"), nested(21, a))), api.ErrLong},
		// nodes without an end
		{endless(api.NdElement), api.ErrLong}, {endless(api.NdText), api.ErrLong}, {endless(0), api.ErrLong},
	}
}

func TestCheck(t *testing.T) { // P4.1
	for i, c := range nodes() {
		if e := Check(c.n); e != c.e {
			t.Errorf("Check %d: %d", i, e)
		}
		size, e := Size(c.n)
		want := 0
		if c.e == api.OK {
			want, _ = modelSize(c.n)
		}
		if e != c.e || size != want {
			t.Errorf("Size %d: %d, %d", i, size, e)
		}
	}
}

func TestSize(t *testing.T) { // P4.1
	for _, c := range []struct {
		n    api.Node
		want int
	}{{tx("t"), 1}, {el("a"), 1}, {d(), 5}, {el("a", tx("t")), 2}, {with(el("a"), attributes(7)...), 8}, {wide(299, el("a")), 300}, {nested(40, with(el("a"), at("x", ""))), 80}, {el("a", with(el("b", tx("t"), el("c")), at("x", ""))), 5}} {
		if size, e := Size(c.n); size != c.want || e != api.OK {
			t.Errorf("Size of %s: %d, %d", show(c.n), size, e)
		}
	}
}

func TestCheckAgrees(t *testing.T) { // P4.1
	d, met := dice(1), map[api.Errno]int{}
	for range 8000 {
		n := d.node()
		for range d.below(3) {
			n = d.spoiled(n)
		}
		want := modelCheck(n)
		if e := Check(n); e != want {
			t.Fatalf("Check of %s: %d, not %d", show(n), e, want)
		}
		met[want]++
	}
	if met[api.OK] < 500 || met[api.ErrArg] < 500 || met[api.ErrLong] < 500 {
		t.Errorf("%v", met)
	}
}

func TestSame(t *testing.T) { // P4.1
	l := []api.Node{
		d(), tx("t"), tx("u"), tx(""), {}, {Kind: 3}, el("a"), el("b"), {Kind: api.NdElement, Name: nm("u", "a")}, {Kind: api.NdText, Name: nm("", "a")}, {Kind: api.NdElement, Name: nm("", "a"), Text: "t"},
		with(el("a"), at("x", "")), with(el("a"), at("x", "1")), with(el("a"), at("y", "")), with(el("a"), api.Attr{Name: nm("u", "x")}), with(el("a"), at("x", ""), at("y", "")), with(el("a"), at("y", ""), at("x", "")), with(el("a"), at("x", ""), at("x", "")),
		el("a", tx("t")), el("a", tx("t"), tx("t")), el("a", tx("tt")), el("a", el("b"), el("c")), el("a", el("c"), el("b")), el("a", el("b", el("c"))), el("a", tx("\xff")), el("a", with(tx("t"), at("x", ""))),
		wide(299, el("a")), wide(299, api.Node{}), nested(40, el("a")), nested(40, api.Node{}), nested(300, tx("t")),
	}
	for i, a := range l {
		for k, b := range l {
			if Same(a, deep(b)) != (i == k) {
				t.Errorf("Same of %.200s and %.200s: %v", show(a), show(b), i != k)
			}
		}
	}
	for _, n := range []api.Node{wide(300, el("a")), wide(300, api.Node{}), nested(41, el("a")), nested(301, tx("t")), with(el("a"), attributes(300)...), endless(api.NdElement), endless(api.NdText)} {
		if Same(n, n) || Same(n, el("a")) || Same(el("a"), n) {
			t.Error("Same of a node that is not small")
		}
	}
	if !Same(api.Node{Kind: api.NdElement, Attrs: []api.Attr{}, Kids: []api.Node{}}, api.Node{Kind: api.NdElement}) || !Same(el("a", el("b")), el("a", api.Node{Kind: api.NdElement, Name: nm("", "b"), Kids: []api.Node{}, Attrs: []api.Attr{}})) {
		t.Error("nil and empty lists differ")
	}
	r := dice(2)
	for range 3000 {
		a, b := r.spoiled(r.element(2)), r.spoiled(r.element(2))
		smallA, smallB := modelCheck(a) != api.ErrLong, modelCheck(b) != api.ErrLong
		if Same(a, b) != (smallA && smallB && show(a) == show(b)) || Same(a, deep(a)) != smallA {
			t.Fatalf("Same of %s and %s", show(a), show(b))
		}
	}
}

func TestAt(t *testing.T) { // P4.4
	b := with(el("b", el("c"), tx("v")), at("y", "2"))
	n := el("a", tx("t"), b, tx("u"), el("e"))
	for _, c := range []struct {
		path []int
		want api.Node
		e    api.Errno
	}{
		{nil, n, api.OK}, {[]int{}, n, api.OK}, {[]int{0}, tx("t"), api.OK}, {[]int{1}, b, api.OK}, {[]int{2}, tx("u"), api.OK}, {[]int{1, 0}, el("c"), api.OK}, {[]int{1, 1}, tx("v"), api.OK}, {[]int{3}, el("e"), api.OK},
		{[]int{4}, api.Node{}, api.ErrNone}, {[]int{-1}, api.Node{}, api.ErrNone}, {[]int{math.MaxInt}, api.Node{}, api.ErrNone}, {[]int{math.MinInt}, api.Node{}, api.ErrNone},
		{[]int{0, 0}, api.Node{}, api.ErrNone}, {[]int{1, 2}, api.Node{}, api.ErrNone}, {[]int{1, -1}, api.Node{}, api.ErrNone}, {[]int{1, 0, 0}, api.Node{}, api.ErrNone}, {[]int{1, 1, 0}, api.Node{}, api.ErrNone}, {[]int{3, 0}, api.Node{}, api.ErrNone}, {[]int{-1, 0}, api.Node{}, api.ErrNone}, {[]int{4, 0}, api.Node{}, api.ErrNone}, {make([]int, 1000), api.Node{}, api.ErrNone},
	} {
		got, e := At(n, c.path)
		is(t, fmt.Sprint("At ", c.path), got, e, c.want, c.e)
	}
}

func TestPaths(t *testing.T) { // P4.4
	for want, n := range map[string]api.Node{
		"[[]]":                               el("a"),
		"[[] [0] [1] [2]]":                   d(),
		"[[] [0] [0 0] [0 0 0] [0 1] [1]]":   el("a", el("b", el("c", tx("t")), tx("u")), tx("v")),
		"[[] [0] [1] [1 0] [1 1] [2]]":       el("a", tx("t"), el("b", tx("t"), with(el("c"), at("x", ""), at("y", ""))), el("d")),
		"[[] [0] [0 0] [0 0 0] [0 0 0 0]]":   nested(4, el("a"), tx("t")),
		"[[] [0] [1] [2] [3] [4] [5] [5 0]]": el("a", el("b"), el("b"), el("b"), el("b"), el("b"), el("b", tx("t"))),
	} {
		if l, e := Paths(n); fmt.Sprint(l) != want || e != api.OK {
			t.Errorf("Paths of %s: %v, %d", show(n), l, e)
		}
	}
}

// TestPathsAgree compares Paths and At with the model, and the order of the paths with its definition.
func TestPathsAgree(t *testing.T) { // P4.4
	d := dice(3)
	for range 1500 {
		n := d.document()
		if modelCheck(n) != api.OK {
			continue
		}
		l := modelEvents(n)
		paths, from, to := modelPlaces(l)
		got, e := Paths(n)
		if e != api.OK || fmt.Sprint(got) != fmt.Sprint(paths) || !slices.IsSortedFunc(got, slices.Compare) {
			t.Fatalf("Paths of %s: %v, %d", show(n), got, e)
		}
		for i, p := range paths {
			want := tx(l[from[i]].Text)
			if l[from[i]].Kind == api.EvStart {
				want, _ = modelGrown(l[from[i]:to[i]])
			}
			if x, e := At(n, p); e != api.OK || show(x) != show(want) {
				t.Fatalf("At %v of %s: %s, %d", p, show(n), show(x), e)
			}
		}
		for range 10 {
			p := d.path(n)
			there := slices.ContainsFunc(paths, func(q []int) bool { return slices.Equal(p, q) })
			if x, e := At(n, p); (e == api.OK) != there || e != api.OK && (e != api.ErrNone || show(x) != show(api.Node{})) {
				t.Fatalf("At %v of %s: %s, %d", p, show(n), show(x), e)
			}
		}
	}
}

// TestNoDocument checks that all functions that take a document look at it before they look at anything else.
func TestNoDocument(t *testing.T) { // P4.1
	kids := []api.Node{el("a"), tx(""), wide(300, el("a"))}
	for i, c := range nodes() {
		want := c.e
		if want == api.OK && c.n.Kind == api.NdText {
			want = api.ErrArg
		}
		if want == api.OK {
			continue
		}
		check := func(what string, n api.Node, e api.Errno) {
			t.Helper()
			if e != want || show(n) != show(api.Node{}) {
				t.Errorf("%s of %d: %s, %d", what, i, show(n), e)
			}
		}
		l, e := Events(c.n)
		check("Events", api.Node{Text: showEvents(l)}, e)
		s, e := Print(c.n)
		check("Print", api.Node{Text: s}, e)
		paths, e := Paths(c.n)
		check("Paths", api.Node{Kids: make([]api.Node, len(paths))}, e)
		for _, path := range [][]int{nil, {0}, {-1}} {
			n, e := At(c.n, path)
			check("At", n, e)
			for _, x := range kids {
				n, e = Insert(c.n, path, x)
				check("Insert", n, e)
			}
			n, e = Delete(c.n, path)
			check("Delete", n, e)
			for _, s := range []string{"", "a", "\xff"} {
				n, e = Rename(c.n, path, nm("", s))
				check("Rename", n, e)
				n, e = SetText(c.n, path, s)
				check("SetText", n, e)
				n, e = SetAttr(c.n, path, at(s, ""))
				check("SetAttr", n, e)
				n, e = DropAttr(c.n, path, nm("", s))
				check("DropAttr", n, e)
			}
		}
	}
}
