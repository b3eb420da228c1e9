package tree

import (
	"fmt"
	"slices"
	"strconv"
	"strings"
	"testing"

	"gabarit/api"
)

func nm(space, local string) api.Name { return api.Name{Space: space, Local: local} }

// at is an attribute in the empty space.
func at(local, value string) api.Attr { return api.Attr{Name: nm("", local), Value: value} }

func tx(s string) api.Node { return api.Node{Kind: api.NdText, Text: s} }

// el is an element in the empty space.
func el(local string, kids ...api.Node) api.Node {
	return api.Node{Kind: api.NdElement, Name: nm("", local), Kids: kids}
}

// with is a node with these attributes.
func with(n api.Node, l ...api.Attr) api.Node {
	n.Attrs = l
	return n
}

// nested is n nodes in each other, the innermost one with a kid if there is one.
func nested(n int, of api.Node, kids ...api.Node) api.Node {
	for range n {
		of.Kids = kids
		kids = []api.Node{of}
	}
	return of
}

// wide is an element with so many kids.
func wide(kids int, of api.Node) api.Node {
	return el("a", slices.Repeat([]api.Node{of}, kids)...)
}

// attributes is n attributes, ascending.
func attributes(n int) []api.Attr {
	var l []api.Attr
	for i := range n {
		l = append(l, at(fmt.Sprintf("x%03d", i), ""))
	}
	return l
}

// endless is a node of this kind that is in itself.
func endless(kind int) api.Node {
	n := api.Node{Kind: kind, Name: nm("", "a"), Kids: make([]api.Node, 1)}
	n.Kids[0] = n
	return n
}

// d is the document of the examples.
func d() api.Node { return with(el("a", tx("t"), el("b"), tx("u")), at("x", "1")) }

// show writes a node with all its fields.
func show(n api.Node) string {
	var b strings.Builder
	var write func(n api.Node)
	write = func(n api.Node) {
		b.WriteString(strconv.Itoa(n.Kind) + "{" + strconv.Quote(n.Name.Space) + strconv.Quote(n.Name.Local) + showAttrs(n.Attrs) + strconv.Quote(n.Text))
		for _, kid := range n.Kids {
			write(kid)
		}
		b.WriteString("}")
	}
	write(n)
	return b.String()
}

func showAttrs(l []api.Attr) string {
	var b strings.Builder
	for _, a := range l {
		b.WriteString("[" + strconv.Quote(a.Name.Space) + strconv.Quote(a.Name.Local) + strconv.Quote(a.Value) + "]")
	}
	return b.String()
}

// showEvents writes events with all their fields but At.
func showEvents(l []api.Event) string {
	var b strings.Builder
	for _, e := range l {
		b.WriteString(show(api.Node{Kind: e.Kind, Name: e.Name, Attrs: e.Attrs, Text: e.Text}) + "\n")
	}
	return b.String()
}

// deep is a copy that shares no memory.
func deep(n api.Node) api.Node {
	n.Attrs = append([]api.Attr{}, n.Attrs...)
	kids := []api.Node{}
	for _, kid := range n.Kids {
		kids = append(kids, deep(kid))
	}
	n.Kids = kids
	return n
}

// spoil writes over all memory that a node reaches, also behind the ends of its lists.
func spoil(n api.Node) {
	attrs, kids := n.Attrs[:cap(n.Attrs)], n.Kids[:cap(n.Kids)]
	for i := range attrs {
		attrs[i] = at("spoiled", "spoiled")
	}
	for i := range kids {
		spoil(kids[i])
		kids[i] = tx("spoiled")
	}
}

// is checks that a function returned this node and this error.
func is(t *testing.T, what string, n api.Node, e api.Errno, want api.Node, wrong api.Errno) {
	t.Helper()
	if e != wrong || show(n) != show(want) {
		t.Errorf("%.300s: %d: %.300s", what, e, show(n))
	}
}

// dice is a repeatable source of numbers.
type dice uint32

func (d *dice) below(n int) int {
	*d = *d*1664525 + 1013904223
	return int(*d>>8) % n
}

func (d *dice) of(l ...string) string { return l[d.below(len(l))] }

func (d *dice) rare() bool { return d.below(30) == 0 }

func (d *dice) text() string {
	s := ""
	for range d.below(4) {
		s += d.of("t", "u", " ", "<", ">", "&", "\"", "'", "\t", "\n", "\r", "]]>", "\u00e4", "\ufffd", "\U0010ffff", "&lt;")
	}
	return s
}

func (d *dice) name() api.Name {
	return nm(d.of("", "", "", "u", "v", "xml", "xmlns", "u v", "w\"<&>\n\r\t", "n1"), d.of("a", "b", "c", "\u00e4-1", "xml"))
}

func (d *dice) attrs() []api.Attr {
	var l []api.Attr
	for _, local := range []string{"a", "b", "xmlns", "x-y"} {
		if n := nm(d.of("", "u", "v", "xml", "w w"), local); d.below(3) == 0 && n != nm("", "xmlns") {
			l = append(l, api.Attr{Name: n, Value: d.text()})
		}
	}
	slices.SortFunc(l, func(a, b api.Attr) int {
		return strings.Compare(a.Name.Space+"\x00"+a.Name.Local, b.Name.Space+"\x00"+b.Name.Local)
	})
	return l
}

// element is a valid element, in which so many elements are in each other at most.
func (d *dice) element(depth int) api.Node {
	n := api.Node{Kind: api.NdElement, Name: d.name(), Attrs: d.attrs()}
	for range d.below(5) {
		last := len(n.Kids) - 1
		if d.below(2) == 0 && (last < 0 || n.Kids[last].Kind == api.NdElement) {
			n.Kids = append(n.Kids, tx("t"+d.text()))
		} else if depth > 1 {
			n.Kids = append(n.Kids, d.element(depth-1))
		}
	}
	return n
}

// big is an element that is small or nearly so.
func (d *dice) big() api.Node {
	n := el("a", d.element(2))
	switch d.below(3) {
	case 0:
		return nested(36+d.below(5), el("d"), n)
	case 1:
		n.Kids = append(slices.Repeat([]api.Node{el("b")}, 280+d.below(18)), n.Kids...)
	default:
		n.Attrs = attributes(280 + d.below(18))
	}
	return n
}

func (d *dice) document() api.Node {
	if d.below(6) == 0 {
		return d.big()
	}
	return d.element(4)
}

// node is a document or a text.
func (d *dice) node() api.Node {
	if d.below(3) == 0 {
		return tx("x" + d.text())
	}
	return d.document()
}

// spoiled is a node with a change that often makes it wrong.
func (d *dice) spoiled(n api.Node) api.Node {
	if len(n.Kids) > 0 && d.below(3) > 0 {
		i := d.below(len(n.Kids))
		n.Kids = slices.Clone(n.Kids)
		n.Kids[i] = d.spoiled(n.Kids[i])
		return n
	}
	switch d.below(9) {
	case 0:
		n.Kind = d.below(5) - 1
	case 1:
		n.Name = nm(d.of("", "u", "\xff", strings.Repeat("n", 201)), d.of("", "a", "a:b", "1", strings.Repeat("n", 201)))
	case 2:
		n.Text = d.of("", "t", "\xff", "\x00")
	case 3:
		n.Kids = append(slices.Clone(n.Kids), tx("t"))
	case 4:
		n.Kids = append(slices.Clone(n.Kids), d.element(2))
	case 5:
		n.Attrs = append(d.attrs(), d.attrs()...)
	case 6:
		n.Attrs = append(slices.Clone(n.Attrs), api.Attr{Name: nm(d.of("", "", "z"), d.of("xmlns", "z", "", "a b")), Value: d.of("", "1", "\xff")})
	case 7:
		n.Attrs, n.Kids = n.Attrs[:0:0], n.Kids[:0:0]
	default:
		n.Kids = append(slices.Clone(n.Kids), nested(38+d.below(5), api.Node{Kind: 1 + d.below(2), Name: nm("", "a")}))
	}
	return n
}

// path is a path that often leads to a node.
func (d *dice) path(n api.Node) []int {
	var p []int
	for len(n.Kids) > 0 && d.below(4) > 0 {
		i := d.below(len(n.Kids))
		p, n = append(p, i), n.Kids[i]
	}
	switch d.below(8) {
	case 0:
		return append(p, len(n.Kids))
	case 1:
		return append(p, d.below(4)-1)
	case 2:
		return append(p, d.below(3)-1, d.below(3)-1)
	}
	return p
}
