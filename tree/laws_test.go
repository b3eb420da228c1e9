package tree

import (
	"fmt"
	"slices"
	"strings"
	"testing"

	"gabarit/api"
	"gabarit/scan"
)

// documents are n documents.
func documents(n int, seed dice) []api.Node {
	var l []api.Node
	for len(l) < n {
		if d := seed.document(); modelCheck(d) == api.OK {
			l = append(l, d)
		}
	}
	return l
}

func TestBuildOfEvents(t *testing.T) { // P4.8
	for _, n := range documents(2000, 11) {
		l, e := Events(n)
		if e != api.OK {
			t.Fatalf("Events of %s: %d", show(n), e)
		}
		back, i, e := Build(l)
		if show(back) != show(n) || i != 0 || e != api.OK || !Same(back, n) {
			t.Fatalf("Build of Events of %s: %s, %d at %d", show(n), show(back), e, i)
		}
		for i := range l {
			l[i].At = i * i
		}
		again, _, _ := Build(l)
		if m, e := Events(again); showEvents(m) != showEvents(l) || e != api.OK {
			t.Fatalf("Events of Build of\n%s: %d\n%s", showEvents(l), e, showEvents(m))
		}
	}
}

func TestParseOfPrint(t *testing.T) { // P4.8
	for _, n := range documents(2000, 12) {
		s, e := Print(n)
		if e != api.OK {
			t.Fatalf("Print of %s: %d", show(n), e)
		}
		back, place, e := Parse(s)
		if show(back) != show(n) || place != 0 || e != api.OK {
			t.Fatalf("Parse of %s: %s, %d at %d", s, show(back), e, place)
		}
		if again, _ := Print(back); again != s {
			t.Fatalf("Print of %s: %s", show(back), again)
		}
	}
}

// TestParseOfLongText has canonical texts of exactly MaxText bytes, and of one more.
func TestParseOfLongText(t *testing.T) { // P4.8
	for _, more := range []int{0, 1} {
		n := el("a", tx(strings.Repeat("t", 60000-len("<a></a>")+more)))
		s, e := Print(n)
		if len(s) != 60000+more || e != api.OK {
			t.Fatalf("%d bytes, %d", len(s), e)
		}
		back, place, e := Parse(s)
		if more == 0 && (e != api.OK || show(back) != show(n)) || more == 1 && (e != api.ErrLong || place != 60000 || show(back) != show(api.Node{})) {
			t.Errorf("%d more: %d at %d", more, e, place)
		}
	}
}

// TestParseIsBuildOfScan has texts with all sorts of tags and errors.
func TestParseIsBuildOfScan(t *testing.T) { // P4.3
	d, met := dice(13), map[api.Errno]int{}
	for range 5000 {
		s, _ := Print(d.element(3))
		if i := d.below(len(s)); d.below(2) == 0 {
			s = s[:i] + d.of("", "<", ">", "&", "x", "<!-- c -->", "<![CDATA[ ]]>", "\xff", "'", " ", "<b/>") + s[i+d.below(2):]
		}
		l, place, e := scan.Scan(s)
		n, at, wrong := Parse(s)
		if wrong != e || at != place {
			t.Fatalf("Parse of %s: %d at %d, not %d at %d", s, wrong, at, e, place)
		}
		want := api.Node{}
		if e == api.OK {
			want, _ = modelGrown(l)
		}
		if show(n) != show(want) {
			t.Fatalf("Parse of %s: %s", s, show(n))
		}
		met[e]++
	}
	if met[api.OK] < 500 || len(met) < 5 {
		t.Errorf("%v", met)
	}
}

func TestDeleteOfInsert(t *testing.T) { // P4.9
	d, done := dice(14), 0
	for _, n := range documents(2000, 15) {
		x := d.element(2)
		paths, _ := Paths(n)
		path := append(slices.Clone(paths[d.below(len(paths))]), d.below(3))
		in, e := Insert(n, path, x)
		if e != api.OK {
			continue
		}
		done++
		if there, e := At(in, path); e != api.OK || show(there) != show(x) {
			t.Fatalf("At %v behind Insert into %s: %s, %d", path, show(n), show(there), e)
		}
		out, e := Delete(in, path)
		is(t, "Delete of Insert", out, e, n, api.OK)
	}
	if done < 500 {
		t.Errorf("only %d", done)
	}
}

// TestEditsAreDocuments makes many edits one behind the other.
func TestEditsAreDocuments(t *testing.T) { // P4.9
	d, done := dice(16), 0
	for _, n := range documents(60, 17) {
		for range 60 {
			c, path := d.change(), d.path(n)
			edited, e := c.done(n, path)
			if e != api.OK {
				continue
			}
			done++
			if n = edited; modelCheck(n) != api.OK || n.Kind != api.NdElement {
				t.Fatalf("%v at %v: %s", c, path, show(n))
			}
		}
	}
	if done < 500 {
		t.Errorf("only %d", done)
	}
}

func TestNothingSharesMemory(t *testing.T) { // R3
	d := dice(18)
	for _, n := range documents(600, 19) {
		before := show(n)
		paths, _ := Paths(n)
		path := slices.Clone(paths[d.below(len(paths))])
		there, _ := At(n, path)
		spoil(there)
		for _, p := range paths {
			want := fmt.Sprint(paths)
			for range cap(p) - len(p) + 1 {
				p = append(p, -7)
			}
			if fmt.Sprint(paths) != want {
				t.Fatal("paths share memory")
			}
			clear(p)
		}
		l, _ := Events(n)
		want := showEvents(l)
		back, _, _ := Build(l)
		spoil(back)
		if showEvents(l) != want {
			t.Fatal("Build changes events, or keeps them")
		}
		back, _, _ = Build(l)
		for _, e := range l {
			clear(e.Attrs[:cap(e.Attrs)])
		}
		if show(back) != before || show(n) != before {
			t.Fatalf("events share memory with a document:\n%s\n%s\n%s", before, show(n), show(back))
		}
		roomy := deep(n)
		roomy.Attrs, roomy.Kids = slices.Grow(roomy.Attrs, 3), slices.Grow(roomy.Kids, 3)
		c := d.change()
		x := show(c.x)
		was := fmt.Sprint(path)
		edited, e := c.done(roomy, path)
		result := show(edited)
		if show(roomy) != before || show(c.x) != x || fmt.Sprint(path) != was {
			t.Fatalf("%v at %v changes its arguments", c, path)
		}
		spoil(roomy)
		spoil(c.x)
		if show(edited) != result {
			t.Fatalf("%v at %v keeps its arguments", c, path)
		}
		if e == api.OK {
			apart(t, edited)
		}
	}
}

// TestArgumentsHaveRoom edits documents whose lists have room behind their ends, where nothing may be written.
func TestArgumentsHaveRoom(t *testing.T) { // R3
	attrs := []api.Attr{at("w", "1"), at("y", "2"), at("z", "3")}
	kids := []api.Node{tx("t"), with(el("b"), attrs[:1]...), tx("u"), el("c"), tx("v")}
	n := api.Node{Kind: api.NdElement, Name: nm("", "a"), Attrs: attrs[:2], Kids: kids[:3]}
	path := []int{1, 0, 7}
	want := fmt.Sprint(attrs, kids, path)
	for _, c := range []change{insert(n), insert(tx("v")), remove(), rename("", "z"), setText("v"), setAttr("", "x", "4"), setAttr("", "w", "4"), dropAttr("", "w")} {
		for i := range 3 {
			c.done(n, path[:i])
			c.done(n, []int{i})
			if got := fmt.Sprint(attrs, kids, path); got != want {
				t.Fatalf("%v: %s", c, got)
			}
		}
	}
	if l, e := Events(n); e != api.OK || len(l) != 6 {
		t.Errorf("%v, %d", l, e)
	}
}

// roomy is a node whose empty lists have room behind their ends: that of attrs and of kids, which all of them share.
func roomy(n api.Node, attrs []api.Attr, kids []api.Node) api.Node {
	if len(n.Attrs) == 0 {
		n.Attrs = attrs[:0]
	}
	of := n.Kids
	n.Kids = nil
	for _, kid := range of {
		n.Kids = append(n.Kids, roomy(kid, attrs, kids))
	}
	if len(of) == 0 {
		n.Kids = kids[:0]
	}
	return n
}

// lengthen appends to all lists of a node.
func lengthen(n api.Node) {
	for _, kid := range n.Kids {
		lengthen(kid)
	}
	_ = append(n.Attrs, at("appended", "appended"))
	_ = append(n.Kids, tx("appended"))
}

// TestEmptyListsWithRoom appends to the lists of results of arguments whose empty lists have room.
func TestEmptyListsWithRoom(t *testing.T) { // R3
	attrs, kids := make([]api.Attr, 3), make([]api.Node, 3)
	untouched := func(what string) {
		t.Helper()
		for i := range attrs {
			if attrs[i] != (api.Attr{}) || show(kids[i]) != show(api.Node{}) {
				t.Fatalf("what is appended to the result of %s is in an argument: %s %s", what, showAttrs(attrs), show(kids[i]))
			}
		}
	}
	d := dice(21)
	for _, plain := range append(documents(400, 22), el("a", tx("t"))) {
		n := roomy(plain, attrs, kids)
		events, _ := Events(n)
		for i := range events {
			_ = append(events[i].Attrs, at("appended", "appended"))
			if untouched("Events"); len(events[i].Attrs) == 0 {
				events[i].Attrs = attrs[:0]
			}
		}
		_ = append(events, text("appended"))
		built, _, e := Build(events)
		lengthen(built)
		untouched("Build")
		is(t, "Build", built, e, plain, api.OK)
		paths, _ := Paths(n)
		for _, path := range paths {
			there, _ := At(n, path)
			lengthen(there)
			untouched("At")
		}
		c, path := d.change(), d.path(n)
		c.x = roomy(c.x, attrs, kids)
		edited, _ := c.done(n, path)
		lengthen(edited)
		untouched(c.kind)
	}
}

// apart checks that what is written to one list of a node, also behind its end, is seen in no other one.
func apart(t *testing.T, n api.Node) {
	t.Helper()
	var lists [][]api.Attr
	var kids [][]api.Node
	var collect func(n api.Node)
	collect = func(n api.Node) {
		lists, kids = append(lists, n.Attrs), append(kids, n.Kids)
		for _, kid := range n.Kids {
			collect(kid)
		}
	}
	collect(n)
	for i := range lists {
		l := lists[i][:cap(lists[i])]
		for k := range l {
			if l[k].Value == "\x00spoiled" {
				t.Fatal("attributes of two elements share memory")
			}
			l[k].Value = "\x00spoiled"
		}
	}
	for i := range kids {
		l := kids[i][:cap(kids[i])]
		for k := range l {
			if l[k].Text == "\x00spoiled" {
				t.Fatal("kids of two elements share memory")
			}
			l[k].Text = "\x00spoiled"
		}
	}
}

// TestTwinsAreApart has documents in which several elements have the same lists.
func TestTwinsAreApart(t *testing.T) { // R3
	x := with(el("b", tx("t"), el("c")), at("x", "1"))
	n := el("a", x, x, el("d", x))
	l, _ := Events(n)
	for i := range l {
		for k := range l[i].Attrs {
			if l[i].Attrs[k].Value != "1" {
				t.Error("events share memory")
			}
			l[i].Attrs[k].Value = "spoiled"
		}
	}
	twin := api.Event{Kind: api.EvStart, Name: nm("", "b"), Attrs: []api.Attr{at("x", "1")}}
	built, _, _ := Build([]api.Event{twin, twin, end(), twin, end(), end()})
	apart(t, built)
	at0, _ := At(n, nil)
	apart(t, at0)
	in, _ := Insert(n, []int{2, 0}, x)
	apart(t, in)
	out, _ := Delete(n, []int{2, 0, 0})
	apart(t, out)
	set, _ := SetAttr(n, []int{0}, at("y", ""))
	apart(t, set)
	parsed, _, _ := Parse("<a x='1'><b x='1'>t</b><b x='1'>t</b></a>")
	apart(t, parsed)
	if show(n) != show(el("a", x, x, el("d", x))) || x.Attrs[0].Value != "1" || x.Kids[0].Text != "t" {
		t.Error("arguments are changed")
	}
}

func TestNilAndEmpty(t *testing.T) { // R4
	for _, n := range documents(300, 20) {
		full := deep(n) // its empty lists are not nil
		s, _ := Print(n)
		s2, _ := Print(full)
		l, _ := Events(n)
		l2, _ := Events(full)
		if s != s2 || showEvents(l) != showEvents(l2) || !Same(n, full) || Check(full) != api.OK {
			t.Fatalf("%s with empty lists: %s", s, s2)
		}
	}
	in, e := Insert(el("a"), []int{0}, deep(tx("t")))
	is(t, "Insert", in, e, el("a", tx("t")), api.OK)
}

func TestNothingPanics(t *testing.T) { // R1
	l := nodes()
	for i, c := range l {
		for _, path := range [][]int{nil, {}, {0}, {-1}, {1 << 62}, {0, 0}, make([]int, 500)} {
			At(c.n, path)
			Delete(c.n, path)
			Rename(c.n, path, nm("", "a"))
			SetText(c.n, path, "t")
			SetAttr(c.n, path, at("x", ""))
			DropAttr(c.n, path, nm("", "x"))
			Insert(c.n, path, l[(i+1)%len(l)].n)
			Insert(d(), path, c.n)
		}
		for _, x := range l {
			Same(c.n, x.n)
		}
	}
}
