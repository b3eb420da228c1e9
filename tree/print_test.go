package tree

import (
	"strings"
	"testing"

	"gabarit/api"
)

// named is an element with a name in a space.
func named(space, local string, kids ...api.Node) api.Node {
	return api.Node{Kind: api.NdElement, Name: nm(space, local), Kids: kids}
}

// in is an attribute with a name in a space.
func in(space, local, value string) api.Attr {
	return api.Attr{Name: nm(space, local), Value: value}
}

func TestPrint(t *testing.T) { // P4.3
	for _, c := range []struct {
		n    api.Node
		want string
	}{
		{el("a"), `<a/>`},
		{d(), `<a x="1">t<b/>u</a>`},
		{el("a", tx(" ")), `<a> </a>`},
		{with(el("a"), at("x", ""), at("y", "2")), `<a x="" y="2"/>`},
		{el("a", el("b", el("c")), el("d", tx("t"))), `<a><b><c/></b><d>t</d></a>`},
		// prefixes
		{with(named("u", "a", named("u", "b")), in("u", "x", "1"), in("xml", "y", "")), `<n1:a xmlns:n1="u" n1:x="1" xml:y=""><n1:b/></n1:a>`},
		{el("a", named("u", "b")), `<a xmlns:n1="u"><n1:b/></a>`},
		{named("u", "a", el("b")), `<n1:a xmlns:n1="u"><b/></n1:a>`},
		{named("u", "a", named("v", "b", named("u", "c", named("w", "d", named("v", "e"))))), `<n1:a xmlns:n1="u" xmlns:n2="v" xmlns:n3="w"><n2:b><n1:c><n3:d><n2:e/></n3:d></n1:c></n2:b></n1:a>`},
		{with(el("a"), in("u", "x", "")), `<a xmlns:n1="u" n1:x=""/>`},
		{with(el("a", named("v", "b"), named("u", "c")), in("u", "x", "")), `<a xmlns:n1="u" xmlns:n2="v" n1:x=""><n2:b/><n1:c/></a>`},
		{el("a", with(named("v", "b"), in("u", "x", "")), named("u", "c")), `<a xmlns:n1="v" xmlns:n2="u"><n1:b n2:x=""/><n2:c/></a>`},
		{with(named("w", "a"), at("x", ""), in("u", "x", ""), in("v", "x", ""), in("w", "x", "")), `<n1:a xmlns:n1="w" xmlns:n2="u" xmlns:n3="v" x="" n2:x="" n3:x="" n1:x=""/>`},
		{el("a", el("b", named("v", "c")), named("u", "d")), `<a xmlns:n1="v" xmlns:n2="u"><b><n1:c/></b><n2:d/></a>`},
		{named("", "a", named("xml", "b")), `<a><xml:b/></a>`},
		{with(named("xml", "xml"), in("xml", "xml", "")), `<xml:xml xml:xml=""/>`},
		{with(named("n2", "a", named("n1", "b")), in("xmlns", "xmlns", "")), `<n1:a xmlns:n1="n2" xmlns:n2="xmlns" xmlns:n3="n1" n2:xmlns=""><n3:b/></n1:a>`},
		{named("XML", "a", named(" u", "b"), named("u", "c")), `<n1:a xmlns:n1="XML" xmlns:n2=" u" xmlns:n3="u"><n2:b/><n3:c/></n1:a>`},
		{el("xmlns"), `<xmlns/>`},
		// escapes
		{el("a", tx("<>&\"'\t\n\r]]>\u00e4&lt;")), "<a>&lt;&gt;&amp;\"'\t\n&#13;]]&gt;\u00e4&amp;lt;</a>"},
		{with(el("a"), at("x", "<>&\"'\t\n\r \u00e4&lt;")), `<a x="&lt;&gt;&amp;&quot;'&#9;&#10;&#13; ` + "\u00e4" + `&amp;lt;"/>`},
		{named("<>&\"'\t\n\r \u00e4", "a"), `<n1:a xmlns:n1="&lt;&gt;&amp;&quot;'&#9;&#10;&#13; ` + "\u00e4" + `"/>`},
	} {
		if s, e := Print(c.n); s != c.want || e != api.OK {
			t.Errorf("Print of %s: %s, %d", show(c.n), s, e)
		}
		n, place, e := Parse(c.want)
		if place != 0 {
			t.Errorf("Parse of %s: at %d", c.want, place)
		}
		is(t, "Parse of "+c.want, n, e, c.n, api.OK)
	}
}

// TestPrintNumbers has more than nine prefixes.
func TestPrintNumbers(t *testing.T) { // P4.3
	n, declared, used := el("a"), "", ""
	for i, number := range []string{"1", "2", "3", "4", "5", "6", "7", "8", "9", "10", "11", "12"} {
		space := strings.Repeat("u", 12-i)
		n.Kids = append(n.Kids, named(space, "b"))
		declared += " xmlns:n" + number + `="` + space + `"`
		used += "<n" + number + ":b/>"
	}
	if s, e := Print(n); s != "<a"+declared+">"+used+"</a>" || e != api.OK {
		t.Errorf("%s, %d", s, e)
	}
}

func TestPrintAgrees(t *testing.T) { // P4.3
	d := dice(7)
	for range 3000 {
		n := d.document()
		if modelCheck(n) != api.OK {
			continue
		}
		if s, e := Print(n); s != modelPrint(n) || e != api.OK {
			t.Fatalf("Print of %s: %d\n%s\nnot %s", show(n), e, s, modelPrint(n))
		}
	}
}
