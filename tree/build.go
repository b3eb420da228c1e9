package tree

import (
	"slices"

	"gabarit/api"
	"gabarit/scan"
)

// Build returns the document of some events; or the index of the event that is wrong (their number, if they end too early), and ErrForm or ErrLong.
func Build(l []api.Event) (api.Node, int, api.Errno) {
	var b builder
	for i, e := range l {
		if wrong := b.take(e); wrong != api.OK {
			return api.Node{}, i, wrong
		}
	}
	if !b.done {
		return api.Node{}, len(l), api.ErrForm
	}
	return b.root, 0, api.OK
}

// Events returns the events of a document.
func Events(n api.Node) ([]api.Event, api.Errno) {
	if e := checkDocument(n); e != api.OK {
		return nil, e
	}
	return appendEvents(nil, n), api.OK
}

// Parse returns the document of a text; or the place of its error, and the error.
func Parse(text string) (api.Node, int, api.Errno) {
	l, at, e := scan.Scan(text)
	if e != api.OK {
		return api.Node{}, at, e
	}
	return Build(l)
}

func appendEvents(l []api.Event, n api.Node) []api.Event {
	if n.Kind == api.NdText {
		return append(l, api.Event{Kind: api.EvText, Text: n.Text})
	}
	l = append(l, api.Event{Kind: api.EvStart, Name: n.Name, Attrs: slices.Clone(n.Attrs)})
	for _, kid := range n.Kids {
		l = appendEvents(l, kid)
	}
	return append(l, api.Event{Kind: api.EvEnd})
}

// builder makes a document of events.
type builder struct {
	open []api.Node // the elements that have not ended, the outermost one first
	size int        // of what there is
	root api.Node   // when it is done
	done bool
}

// take takes the next event, unless it is wrong.
func (b *builder) take(e api.Event) api.Errno {
	n := nodeOf(e)
	if !b.goesOn(e.Kind, n) {
		return api.ErrForm
	}
	if e.Kind == api.EvEnd {
		b.leave()
		return api.OK
	}
	b.size += 1 + len(n.Attrs)
	if b.size > api.MaxNodes || e.Kind == api.EvStart && len(b.open) == api.MaxDeep {
		return api.ErrLong
	}
	if e.Kind == api.EvText {
		b.put(n)
		return api.OK
	}
	b.open = append(b.open, n)
	return api.OK
}

// nodeOf returns a node with the fields of an event. Its list is a copy even if it is empty: the list of the event may have room, into which others append.
func nodeOf(e api.Event) api.Node {
	return api.Node{Kind: kindOf(e), Name: e.Name, Attrs: slices.Clone(e.Attrs), Text: e.Text}
}

// kindOf returns the kind of the node that begins with an event, 0 if there is none.
func kindOf(e api.Event) int {
	switch e.Kind {
	case api.EvStart:
		return api.NdElement
	case api.EvText:
		return api.NdText
	}
	return 0
}

// goesOn reports whether events of a document can go on with an event of this kind, whose other fields are those of the node, as far as limits do not matter.
func (b *builder) goesOn(kind int, n api.Node) bool {
	inside := len(b.open) > 0
	switch kind {
	case api.EvStart:
		return !b.done && fits(n)
	case api.EvText:
		return inside && fits(n) && !b.behindText()
	case api.EvEnd:
		return inside && same(n, api.Node{})
	}
	return false
}

func (b *builder) innermost() *api.Node { return &b.open[len(b.open)-1] }

// behindText reports whether the last kid of the innermost element is a text.
func (b *builder) behindText() bool {
	kids := b.innermost().Kids
	return len(kids) > 0 && kids[len(kids)-1].Kind == api.NdText
}

// put makes a node the last kid of the innermost element, or the root if there is none.
func (b *builder) put(n api.Node) {
	if len(b.open) == 0 {
		b.root, b.done = n, true
		return
	}
	around := b.innermost()
	around.Kids = append(around.Kids, n)
}

// leave ends the innermost element.
func (b *builder) leave() {
	n := *b.innermost()
	b.open = b.open[:len(b.open)-1]
	b.put(n)
}
