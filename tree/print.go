package tree

import (
	"strconv"
	"strings"

	"gabarit/api"
	"gabarit/chars"
)

// Print returns the canonical text of a document.
func Print(n api.Node) (string, api.Errno) {
	if e := checkDocument(n); e != api.OK {
		return "", e
	}
	p := printer{prefixes: map[string]string{"": "", "xml": "xml:"}}
	p.element(n, p.declare(n))
	return p.text.String(), api.OK
}

// printer writes a document.
type printer struct {
	prefixes map[string]string // with their colons, by their spaces
	text     strings.Builder
}

// declare gives prefixes to the spaces in a document, and returns their declarations.
func (p *printer) declare(n api.Node) string {
	var declarations strings.Builder
	declared := 0
	meet := func(n api.Name) {
		if _, known := p.prefixes[n.Space]; known {
			return
		}
		declared++
		prefix := "n" + strconv.Itoa(declared)
		p.prefixes[n.Space] = prefix + ":"
		declarations.WriteString(" xmlns:" + prefix + "=" + quoted(n.Space))
	}
	for v := range visits(n) {
		meet(v.node.Name) // that of a text is in the empty space, which is known
		for _, a := range v.node.Attrs {
			meet(a.Name)
		}
	}
	return declarations.String()
}

func (p *printer) element(n api.Node, declarations string) {
	p.text.WriteString("<" + p.raw(n.Name) + declarations)
	for _, a := range n.Attrs {
		p.text.WriteString(" " + p.raw(a.Name) + "=" + quoted(a.Value))
	}
	if len(n.Kids) == 0 {
		p.text.WriteString("/>")
		return
	}
	p.text.WriteString(">")
	for _, kid := range n.Kids {
		if kid.Kind == api.NdText {
			p.text.WriteString(escaped(kid.Text, false))
		} else {
			p.element(kid, "")
		}
	}
	p.text.WriteString("</" + p.raw(n.Name) + ">")
}

func (p *printer) raw(n api.Name) string { return p.prefixes[n.Space] + n.Local }

// escaped escapes what is known to be a text.
func escaped(s string, attribute bool) string {
	s, _ = chars.Escape(s, attribute)
	return s
}

func quoted(s string) string { return `"` + escaped(s, true) + `"` }
