package tree

import (
	"fmt"
	"math"
	"strings"
	"testing"

	"gabarit/api"
)

// gives checks an edit by the text of the document it returns, or by its error.
func gives(t *testing.T, c change, n api.Node, path []int, want string, wrong api.Errno) {
	t.Helper()
	doc := api.Node{}
	if wrong == api.OK {
		n, _, e := Parse(want)
		if e != api.OK {
			t.Fatalf("%s: %d", want, e)
		}
		doc = n
	}
	edited, e := c.done(n, path)
	is(t, fmt.Sprint(c, " at ", path), edited, e, doc, wrong)
}

func insert(x api.Node) change { return change{kind: "Insert", x: x} }
func remove() change           { return change{kind: "Delete"} }
func rename(space, local string) change {
	return change{kind: "Rename", name: nm(space, local)}
}
func setText(s string) change             { return change{kind: "SetText", text: s} }
func setAttr(s, local, v string) change   { return change{kind: "SetAttr", attr: in(s, local, v)} }
func dropAttr(space, local string) change { return change{kind: "DropAttr", name: nm(space, local)} }

func TestInsert(t *testing.T) { // P4.5
	v, c := insert(tx("v")), insert(el("c"))
	gives(t, c, d(), []int{0}, `<a x="1"><c/>t<b/>u</a>`, 0)
	gives(t, c, d(), []int{1}, `<a x="1">t<c/><b/>u</a>`, 0)
	gives(t, c, d(), []int{2}, `<a x="1">t<b/><c/>u</a>`, 0)
	gives(t, c, d(), []int{3}, `<a x="1">t<b/>u<c/></a>`, 0)
	gives(t, c, d(), []int{1, 0}, `<a x="1">t<b><c/></b>u</a>`, 0)
	gives(t, insert(with(el("c", tx("w"), el("d")), in("u", "y", "2"))), d(), []int{1, 0}, `<a x="1">t<b><c p:y="2" xmlns:p="u">w<d/></c></b>u</a>`, 0)
	gives(t, insert(d()), d(), []int{1}, `<a x="1">t<a x="1">t<b/>u</a><b/>u</a>`, 0)
	gives(t, c, el("a", el("b", el("b", tx("t")))), []int{0, 0, 1}, `<a><b><b>t<c/></b></b></a>`, 0)
	// texts are joined
	gives(t, v, d(), []int{0}, `<a x="1">vt<b/>u</a>`, 0)
	gives(t, v, d(), []int{1}, `<a x="1">tv<b/>u</a>`, 0)
	gives(t, v, d(), []int{2}, `<a x="1">t<b/>vu</a>`, 0)
	gives(t, v, d(), []int{3}, `<a x="1">t<b/>uv</a>`, 0)
	gives(t, v, d(), []int{1, 0}, `<a x="1">t<b>v</b>u</a>`, 0)
	gives(t, v, el("a", el("b"), el("c")), []int{1}, `<a><b/>v<c/></a>`, 0)
	gives(t, v, el("a", el("b"), el("c")), []int{0}, `<a>v<b/><c/></a>`, 0)
	gives(t, v, el("a"), []int{0}, `<a>v</a>`, 0)
	gives(t, insert(tx(" ")), el("a", tx("t")), []int{1}, `<a>t </a>`, 0)
	// there is no such place
	for _, path := range [][]int{{4}, {-1}, {math.MaxInt}, {math.MinInt}, {0, 0}, {2, 0}, {1, 1}, {1, -1}, {3, 0}, {-1, 0}, {1, 0, 0}, {0, 0, 0}, {7, 7, 7}} {
		gives(t, c, d(), path, "", api.ErrNone)
		gives(t, v, d(), path, "", api.ErrNone)
	}
	// wrong arguments, in order: the node, the empty path, the place
	for _, path := range [][]int{nil, {}} {
		gives(t, c, d(), path, "", api.ErrArg)
		gives(t, insert(wide(300, el("a"))), d(), path, "", api.ErrLong)
	}
	for _, path := range [][]int{nil, {1}, {0, 0}, {9}} {
		gives(t, insert(tx("")), d(), path, "", api.ErrArg)
		gives(t, insert(api.Node{}), d(), path, "", api.ErrArg)
		gives(t, insert(el("a", tx("t"), tx("u"))), d(), path, "", api.ErrArg)
		gives(t, insert(nested(41, el("a"))), d(), path, "", api.ErrLong)
		gives(t, insert(wide(300, api.Node{})), d(), path, "", api.ErrLong)
		if n, e := Insert(d(), path, endless(api.NdElement)); e != api.ErrLong || show(n) != show(api.Node{}) {
			t.Errorf("Insert of a node without an end: %s, %d", show(n), e)
		}
	}
}

func TestInsertLimits(t *testing.T) { // P4.5
	full := wide(299, el("b"))
	gives(t, insert(el("c")), full, []int{0}, "", api.ErrLong)
	gives(t, insert(tx("t")), full, []int{299}, "", api.ErrLong)
	gives(t, insert(tx("t")), full, []int{5, 0}, "", api.ErrLong)
	gives(t, insert(el("c")), full, []int{300}, "", api.ErrNone)
	gives(t, insert(with(el("c"), at("x", ""))), wide(298, el("b")), []int{0}, "", api.ErrLong)
	gives(t, insert(el("c")), wide(298, el("b")), []int{298}, "<a>"+strings.Repeat("<b/>", 298)+"<c/></a>", 0)
	gives(t, insert(tx("t")), wide(298, el("b")), []int{0}, "<a>t"+strings.Repeat("<b/>", 298)+"</a>", 0)
	gives(t, insert(el("c", tx("t"))), wide(298, el("b")), []int{0}, "", api.ErrLong)
	gives(t, insert(wide(299, el("b"))), el("a"), []int{0}, "", api.ErrLong)
	gives(t, insert(wide(298, el("b"))), el("a"), []int{0}, "<a><a>"+strings.Repeat("<b/>", 298)+"</a></a>", 0)
	// a text that is joined needs no node of its own
	text := el("a", append(wide(298, el("b")).Kids, tx("t"))...)
	gives(t, insert(tx("u")), text, []int{298}, "<a>"+strings.Repeat("<b/>", 298)+"ut</a>", 0)
	gives(t, insert(tx("u")), text, []int{299}, "<a>"+strings.Repeat("<b/>", 298)+"tu</a>", 0)
	gives(t, insert(tx("u")), text, []int{297}, "", api.ErrLong)
	// depths
	open, ends := strings.Repeat("<a>", 39), strings.Repeat("</a>", 39)
	gives(t, insert(el("c")), nested(39, el("a")), make([]int, 39), open+"<c/>"+ends, 0)
	gives(t, insert(el("c")), nested(40, el("a")), make([]int, 40), "", api.ErrLong)
	gives(t, insert(el("c")), nested(40, el("a")), make([]int, 39), open+"<c/><a/>"+ends, 0)
	gives(t, insert(tx("t")), nested(40, el("a")), make([]int, 40), open+"<a>t</a>"+ends, 0)
	gives(t, insert(nested(39, el("a"))), el("b"), []int{0}, "<b>"+open+ends+"</b>", 0)
	gives(t, insert(nested(40, el("a"))), el("b"), []int{0}, "", api.ErrLong)
}

func TestDelete(t *testing.T) { // P4.6
	gives(t, remove(), d(), []int{0}, `<a x="1"><b/>u</a>`, 0)
	gives(t, remove(), d(), []int{1}, `<a x="1">tu</a>`, 0)
	gives(t, remove(), d(), []int{2}, `<a x="1">t<b/></a>`, 0)
	gives(t, remove(), el("a", el("b")), []int{0}, `<a/>`, 0)
	gives(t, remove(), el("a", el("b"), el("c"), el("d")), []int{1}, `<a><b/><d/></a>`, 0)
	gives(t, remove(), el("a", tx("t"), el("b"), el("c"), tx("u")), []int{1}, `<a>t<c/>u</a>`, 0)
	gives(t, remove(), el("a", tx("t"), el("b", tx("u"), with(el("c", el("d")), at("x", "")), tx("v")), tx("w")), []int{1, 1}, `<a>t<b>uv</b>w</a>`, 0)
	gives(t, remove(), el("a", tx("t"), el("b", tx("u"), el("c"), tx("v")), tx("w"), el("d")), []int{1}, `<a>tw<d/></a>`, 0)
	gives(t, remove(), el("a", tx("t"), el("b"), tx("t"), el("b"), tx("t")), []int{3}, `<a>t<b/>tt</a>`, 0)
	gives(t, remove(), wide(299, el("b")), []int{298}, "<a>"+strings.Repeat("<b/>", 298)+"</a>", 0)
	for _, path := range [][]int{{3}, {-1}, {math.MaxInt}, {math.MinInt}, {0, 0}, {1, 0}, {1, -1}, {2, 0}, {-1, 0}, {3, 0}, {0, 0, 0}, {7, 7, 7}} {
		gives(t, remove(), d(), path, "", api.ErrNone)
	}
	gives(t, remove(), d(), nil, "", api.ErrArg)
	gives(t, remove(), d(), []int{}, "", api.ErrArg)
}

// away are paths that lead to no node of the document of the examples.
func away() [][]int {
	return [][]int{{3}, {-1}, {math.MaxInt}, {0, 0}, {2, 0}, {1, 0}, {1, -1}, {7, 7}}
}

func TestRename(t *testing.T) { // P4.7
	gives(t, rename("", "z"), d(), nil, `<z x="1">t<b/>u</z>`, 0)
	gives(t, rename("u", "z"), d(), []int{1}, `<a x="1">t<z xmlns="u"/>u</a>`, 0)
	gives(t, rename("", "a"), d(), nil, `<a x="1">t<b/>u</a>`, 0)
	gives(t, rename("", "xmlns"), d(), nil, `<xmlns x="1">t<b/>u</xmlns>`, 0)
	gives(t, rename("", long(200)), d(), []int{1}, `<a x="1">t<`+long(200)+`/>u</a>`, 0)
	gives(t, rename(long(200), "b"), d(), []int{1}, `<a x="1">t<b xmlns="`+long(200)+`"/>u</a>`, 0)
	gives(t, rename("", "z"), el("a", el("b", el("c"), with(el("d", tx("t")), at("x", "")))), []int{0, 1}, `<a><b><c/><z x="">t</z></b></a>`, 0)
	gives(t, rename("", "z"), d(), []int{0}, "", api.ErrDown)
	gives(t, rename("", "z"), d(), []int{2}, "", api.ErrDown)
	for _, path := range away() {
		gives(t, rename("", "z"), d(), path, "", api.ErrNone)
	}
	for _, n := range []api.Name{{}, nm("u", ""), nm("", "a b"), nm("", "p:a"), nm("", "1"), nm("", "\xff"), nm("\xff", "a"), nm("", long(201)), nm(long(201), "a")} {
		for _, path := range [][]int{nil, {0}, {1}, {3}, {0, 0}} {
			gives(t, rename(n.Space, n.Local), d(), path, "", api.ErrArg)
		}
	}
}

func TestSetText(t *testing.T) { // P4.7
	gives(t, setText("v"), d(), []int{0}, `<a x="1">v<b/>u</a>`, 0)
	gives(t, setText("<\u00e4"), d(), []int{2}, `<a x="1">t<b/>&lt;ä</a>`, 0)
	gives(t, setText(" "), el("a", el("b", tx("t"))), []int{0, 0}, `<a><b> </b></a>`, 0)
	gives(t, setText("t"), d(), []int{0}, `<a x="1">t<b/>u</a>`, 0)
	gives(t, setText("v"), d(), nil, "", api.ErrDown)
	gives(t, setText("v"), d(), []int{1}, "", api.ErrDown)
	for _, path := range away() {
		gives(t, setText("v"), d(), path, "", api.ErrNone)
	}
	for _, s := range []string{"", "\xff", "t\x00", "\ufffe"} {
		for _, path := range [][]int{nil, {0}, {1}, {3}, {0, 0}} {
			gives(t, setText(s), d(), path, "", api.ErrArg)
		}
	}
}

func TestSetAttr(t *testing.T) { // P4.7
	gives(t, setAttr("", "x", "2"), d(), nil, `<a x="2">t<b/>u</a>`, 0)
	gives(t, setAttr("", "y", "2"), d(), nil, `<a x="1" y="2">t<b/>u</a>`, 0)
	gives(t, setAttr("", "w", "2"), d(), nil, `<a w="2" x="1">t<b/>u</a>`, 0)
	gives(t, setAttr("", "x", ""), d(), nil, `<a x="">t<b/>u</a>`, 0)
	gives(t, setAttr("u", "a", "2"), d(), nil, `<a x="1" p:a="2" xmlns:p="u">t<b/>u</a>`, 0)
	gives(t, setAttr("u", "x", "2"), d(), nil, `<a x="1" p:x="2" xmlns:p="u">t<b/>u</a>`, 0)
	gives(t, setAttr("u", "xmlns", ""), d(), []int{1}, `<a x="1">t<b p:xmlns="" xmlns:p="u"/>u</a>`, 0)
	gives(t, setAttr("", "x", "2"), d(), []int{1}, `<a x="1">t<b x="2"/>u</a>`, 0)
	wxz := with(el("a"), at("w", ""), at("x", ""), at("z", ""), in("u", "a", ""))
	gives(t, setAttr("", "x", "2"), wxz, nil, `<a w="" x="2" z="" p:a="" xmlns:p="u"/>`, 0)
	gives(t, setAttr("", "y", "2"), wxz, nil, `<a w="" x="" y="2" z="" p:a="" xmlns:p="u"/>`, 0)
	gives(t, setAttr("u", "a", "2"), wxz, nil, `<a w="" x="" z="" p:a="2" xmlns:p="u"/>`, 0)
	gives(t, setAttr("t", "zz", "2"), wxz, nil, `<a w="" x="" z="" p:zz="2" q:a="" xmlns:p="t" xmlns:q="u"/>`, 0)
	gives(t, setAttr("", "x", "2"), d(), []int{0}, "", api.ErrDown)
	gives(t, setAttr("", "x", "2"), d(), []int{2}, "", api.ErrDown)
	for _, path := range away() {
		gives(t, setAttr("", "x", "2"), d(), path, "", api.ErrNone)
	}
	for _, a := range []api.Attr{{}, at("xmlns", ""), in("u", "", ""), at("p:x", ""), at(long(201), ""), in(long(201), "x", ""), in("\xff", "x", ""), at("x", "\xff"), at("x", "\x00"), at("", "\xff")} {
		for _, path := range [][]int{nil, {0}, {1}, {3}, {0, 0}} {
			gives(t, setAttr(a.Name.Space, a.Name.Local, a.Value), d(), path, "", api.ErrArg)
		}
	}
	// no node is left, unless the attribute is there
	full := with(wide(298, el("b")), at("x", ""))
	gives(t, setAttr("", "y", ""), full, nil, "", api.ErrLong)
	gives(t, setAttr("", "x", ""), full, []int{0}, "", api.ErrLong)
	gives(t, setAttr("", "x", "2"), full, nil, `<a x="2">`+strings.Repeat("<b/>", 298)+`</a>`, 0)
	gives(t, setAttr("", "x", ""), wide(298, el("b")), nil, `<a x="">`+strings.Repeat("<b/>", 298)+`</a>`, 0)
	gives(t, setAttr("", "y", ""), full, []int{298}, "", api.ErrNone)
	gives(t, setAttr("", "y", ""), el("a", append(full.Kids, tx("t"))...), []int{298}, "", api.ErrDown)
}

func TestDropAttr(t *testing.T) { // P4.7
	gives(t, dropAttr("", "x"), d(), nil, `<a>t<b/>u</a>`, 0)
	wxz := with(el("a"), at("w", ""), at("x", ""), in("u", "x", ""))
	gives(t, dropAttr("", "w"), wxz, nil, `<a x="" p:x="" xmlns:p="u"/>`, 0)
	gives(t, dropAttr("", "x"), wxz, nil, `<a w="" p:x="" xmlns:p="u"/>`, 0)
	gives(t, dropAttr("u", "x"), wxz, nil, `<a w="" x=""/>`, 0)
	gives(t, dropAttr("", "x"), el("a", el("b", with(el("c", tx("t")), at("x", "")))), []int{0, 0}, `<a><b><c>t</c></b></a>`, 0)
	gives(t, dropAttr("", "y"), d(), nil, "", api.ErrNone)
	gives(t, dropAttr("", "a"), d(), nil, "", api.ErrNone)
	gives(t, dropAttr("u", "x"), d(), nil, "", api.ErrNone)
	gives(t, dropAttr("", "x"), d(), []int{1}, "", api.ErrNone)
	gives(t, dropAttr("", "x"), d(), []int{0}, "", api.ErrDown)
	gives(t, dropAttr("", "x"), d(), []int{2}, "", api.ErrDown)
	for _, path := range away() {
		gives(t, dropAttr("", "x"), d(), path, "", api.ErrNone)
	}
	for _, n := range []api.Name{{}, nm("", "xmlns"), nm("u", ""), nm("", "p:x"), nm("", long(201)), nm(long(201), "x"), nm("\xff", "x")} {
		for _, path := range [][]int{nil, {0}, {1}, {3}, {0, 0}} {
			gives(t, dropAttr(n.Space, n.Local), d(), path, "", api.ErrArg)
		}
	}
}

// change is an edit with arguments that are often right.
func (d *dice) change() change {
	c := change{kind: d.of("Insert", "Insert", "Delete", "Rename", "SetText", "SetAttr", "DropAttr"), x: d.node(), name: d.name(), text: d.text(), attr: api.Attr{Name: d.name(), Value: d.text()}}
	if c.kind == "DropAttr" || d.below(3) == 0 {
		c.name = nm(d.of("", "u", "v"), d.of("a", "b"))
		c.attr.Name = c.name
	}
	if d.below(8) == 0 {
		c.x, c.name, c.text = d.spoiled(c.x), nm(d.of("", "\xff"), d.of("", "a:b", "xmlns")), d.of("", "\xff")
		c.attr = []api.Attr{{Name: c.name}, at("x", "\xff")}[d.below(2)]
	}
	return c
}

func TestEditsAgree(t *testing.T) { // P4.5, P4.6, P4.7
	d, met := dice(8), map[string]int{}
	for range 8000 {
		n, c := d.node(), d.change()
		path := d.path(n)
		if d.rare() {
			n = d.spoiled(n)
		}
		want, wrong := c.model(n, path)
		got, e := c.done(n, path)
		if show(got) != show(want) || e != wrong {
			t.Fatalf("%v at %v of %s: %d, not %d\n%s\nnot %s", c, path, show(n), e, wrong, show(got), show(want))
		}
		met[fmt.Sprint(c.kind, e)]++
	}
	for _, s := range strings.Fields("Insert0 Insert2 Insert3 Insert4 Delete0 Delete2 Delete3 Delete4 Rename0 Rename2 Rename3 Rename4 Rename9 SetText0 SetText2 SetText3 SetText4 SetText9 SetAttr0 SetAttr2 SetAttr3 SetAttr4 SetAttr9 DropAttr0 DropAttr2 DropAttr3 DropAttr4 DropAttr9") {
		if met[s] < 15 {
			t.Errorf("%s only %d times", s, met[s])
		}
	}
}
