package tree

import (
	"fmt"
	"slices"
	"sort"
	"strings"
	"unicode/utf8"

	"gabarit/api"
	"gabarit/chars"
	"gabarit/names"
)

// What begins with "model" is written apart from the program, straight from the definitions of the chapter. Edits are made on the events of a document, paths by counting their starts and ends.

func modelSize(n api.Node) (size, depth int) {
	size = 1 + len(n.Attrs)
	for _, kid := range n.Kids {
		s, d := modelSize(kid)
		size, depth = size+s, max(depth, d)
	}
	if n.Kind != api.NdText {
		depth++
	}
	return size, depth
}

func modelText(s string) bool {
	for _, c := range s {
		if !chars.Valid(c) {
			return false
		}
	}
	return utf8.ValidString(s)
}

func modelName(n api.Name, attribute bool) bool {
	return chars.Local(n.Local) && modelText(n.Space) && len(n.Space) <= 200 && !(attribute && n.Space == "" && n.Local == "xmlns")
}

func modelStart(n api.Name, l []api.Attr) bool {
	ok := modelName(n, false)
	for i, a := range l {
		ok = ok && modelName(a.Name, true) && modelText(a.Value)
		for _, b := range l[:i] {
			ok = ok && names.Less(b.Name, a.Name)
		}
	}
	return ok
}

func modelValid(n api.Node) bool {
	if n.Kind == api.NdText {
		return n.Text != "" && modelText(n.Text) && show(n) == show(tx(n.Text))
	}
	ok, kinds := n.Kind == api.NdElement && modelStart(n.Name, n.Attrs) && n.Text == "", ""
	for _, kid := range n.Kids {
		ok = ok && modelValid(kid)
		kinds += fmt.Sprintf("<%d>", kid.Kind)
	}
	return ok && !strings.Contains(kinds, "<2><2>")
}

func modelCheck(n api.Node) api.Errno {
	if size, depth := modelSize(n); size > 300 || depth > 40 {
		return api.ErrLong
	}
	if !modelValid(n) {
		return api.ErrArg
	}
	return api.OK
}

// modelGrown is the node of events that end as they should, with their rest.
func modelGrown(l []api.Event) (api.Node, []api.Event) {
	n := api.Node{Kind: api.NdElement, Name: l[0].Name, Attrs: l[0].Attrs}
	for l = l[1:]; l[0].Kind != api.EvEnd; {
		kid := tx(l[0].Text)
		if l[0].Kind == api.EvText {
			l = l[1:]
		} else {
			kid, l = modelGrown(l)
		}
		n.Kids = append(n.Kids, kid)
	}
	return n, l[1:]
}

func modelEvents(n api.Node) []api.Event {
	if n.Kind == api.NdText {
		return []api.Event{{Kind: api.EvText, Text: n.Text}}
	}
	l := []api.Event{{Kind: api.EvStart, Name: n.Name, Attrs: n.Attrs}}
	for _, kid := range n.Kids {
		l = slices.Concat(l, modelEvents(kid))
	}
	return append(l, api.Event{Kind: api.EvEnd})
}

// modelForm returns the first event with which no events go on, as far as the limits of a document do not matter, and how many elements are open before it.
func modelForm(l []api.Event) (index, open int) {
	for i, e := range l {
		behind, bare := i > 0 && open == 0, e.Name == nm("", "") && len(e.Attrs) == 0
		switch {
		case e.Kind == api.EvStart && !behind && e.Text == "" && modelStart(e.Name, e.Attrs):
			open++
		case e.Kind == api.EvText && open > 0 && bare && e.Text != "" && modelText(e.Text) && l[i-1].Kind != api.EvText:
		case e.Kind == api.EvEnd && open > 0 && bare && e.Text == "":
			open--
		default:
			return i, open
		}
	}
	return len(l), open
}

// modelBuild looks for the first beginning of some events that is too large, with the ends that are missing.
func modelBuild(l []api.Event) (api.Node, int, api.Errno) {
	formed, open := modelForm(l)
	grown := func(l []api.Event) api.Node {
		_, open := modelForm(l)
		n, _ := modelGrown(slices.Concat(l, times(open, end())))
		return n
	}
	long := sort.Search(formed, func(i int) bool {
		size, depth := modelSize(grown(l[:i+1]))
		return size > 300 || depth > 40
	})
	switch {
	case long < formed:
		return api.Node{}, long, api.ErrLong
	case formed < len(l) || open > 0 || len(l) == 0:
		return api.Node{}, formed, api.ErrForm
	}
	return grown(l), 0, api.OK
}

// modelPrint finds the prefixes first, and then writes the events.
func modelPrint(n api.Node) string {
	l, spaces := modelEvents(n), []string{}
	meet := func(n api.Name) string {
		if n.Space == "" || n.Space == "xml" {
			return strings.TrimPrefix(n.Space+":", ":") + n.Local
		}
		if !slices.Contains(spaces, n.Space) {
			spaces = append(spaces, n.Space)
		}
		return fmt.Sprintf("n%d:%s", slices.Index(spaces, n.Space)+1, n.Local)
	}
	value := func(s string) string {
		return `"` + strings.NewReplacer("&", "&amp;", "<", "&lt;", ">", "&gt;", `"`, "&quot;", "\t", "&#9;", "\n", "&#10;", "\r", "&#13;").Replace(s) + `"`
	}
	body, open := "", []string{}
	for i, e := range l {
		switch e.Kind {
		case api.EvStart:
			open = append(open, meet(e.Name))
			body += "<" + open[len(open)-1]
			if i == 0 {
				body += "\x00" // no character: the place of the declarations
			}
			for _, a := range e.Attrs {
				body += " " + meet(a.Name) + "=" + value(a.Value)
			}
			body += ">"
		case api.EvText:
			body += strings.NewReplacer("&", "&amp;", "<", "&lt;", ">", "&gt;", "\r", "&#13;").Replace(e.Text)
		case api.EvEnd:
			if l[i-1].Kind == api.EvStart {
				body = strings.TrimSuffix(body, ">") + "/>"
			} else {
				body += "</" + open[len(open)-1] + ">"
			}
			open = open[:len(open)-1]
		}
	}
	declared := ""
	for i, space := range spaces {
		declared += fmt.Sprintf(" xmlns:n%d=%s", i+1, value(space))
	}
	return strings.Replace(body, "\x00", declared, 1)
}

// modelPlaces are the paths of the nodes of some events, in order, the events at which they begin, and those behind them.
func modelPlaces(l []api.Event) (paths [][]int, from, to []int) {
	var open, index []int
	for i, e := range l {
		if e.Kind == api.EvEnd {
			to[open[len(open)-1]] = i + 1
			open, index = open[:len(open)-1], index[:len(index)-1]
			continue
		}
		if len(index) > 0 {
			index[len(index)-1]++
		}
		paths, from, to = append(paths, slices.Clone(index)), append(from, i), append(to, i+1)
		if e.Kind == api.EvStart {
			open, index = append(open, len(paths)-1), append(index, -1)
		}
	}
	return paths, from, to
}

// modelJoined joins the texts that stand beside each other.
func modelJoined(l []api.Event) []api.Event {
	var joined []api.Event
	for _, e := range l {
		if k := len(joined); e.Kind == api.EvText && k > 0 && joined[k-1].Kind == api.EvText {
			joined[k-1].Text += e.Text
		} else {
			joined = append(joined, e)
		}
	}
	return joined
}

// change is what an edit does with its arguments.
type change struct {
	kind string // the name of the function
	x    api.Node
	name api.Name
	text string
	attr api.Attr
}

func (c change) String() string {
	return fmt.Sprintf("%s %s %q %q %q", c.kind, show(c.x), c.name, c.text, c.attr)
}

func (c change) done(n api.Node, path []int) (api.Node, api.Errno) {
	switch c.kind {
	case "Insert":
		return Insert(n, path, c.x)
	case "Delete":
		return Delete(n, path)
	case "Rename":
		return Rename(n, path, c.name)
	case "SetText":
		return SetText(n, path, c.text)
	case "SetAttr":
		return SetAttr(n, path, c.attr)
	}
	return DropAttr(n, path, c.name)
}

// modelWrong returns the error of the arguments of an edit beside the document.
func (c change) modelWrong(path []int) api.Errno {
	wrong := false
	switch c.kind {
	case "Insert":
		if e := modelCheck(c.x); e != api.OK {
			return e
		}
		wrong = len(path) == 0
	case "Delete":
		wrong = len(path) == 0
	case "Rename":
		wrong = !modelName(c.name, false)
	case "SetText":
		wrong = c.text == "" || !modelText(c.text)
	case "SetAttr":
		wrong = !modelName(c.attr.Name, true) || !modelText(c.attr.Value)
	case "DropAttr":
		wrong = !modelName(c.name, true)
	}
	if wrong {
		return api.ErrArg
	}
	return api.OK
}

// model makes the edit on the events of the document.
func (c change) model(n api.Node, path []int) (api.Node, api.Errno) {
	if e := modelCheck(n); e != api.OK {
		return api.Node{}, e
	}
	if n.Kind == api.NdText {
		return api.Node{}, api.ErrArg
	}
	if e := c.modelWrong(path); e != api.OK {
		return api.Node{}, e
	}
	l, e := modelEvents(n), api.OK
	if c.kind == "Insert" {
		l, e = c.modelInsert(l, path)
	} else {
		l, e = c.modelAt(l, path)
	}
	if e != api.OK {
		return api.Node{}, e
	}
	edited, _ := modelGrown(modelJoined(l))
	if size, depth := modelSize(edited); size > 300 || depth > 40 {
		return api.Node{}, api.ErrLong
	}
	return edited, api.OK
}

func (c change) modelInsert(l []api.Event, path []int) ([]api.Event, api.Errno) {
	paths, from, to := modelPlaces(l)
	is := func(p []int) func([]int) bool { return func(q []int) bool { return slices.Equal(p, q) } }
	around, last := slices.IndexFunc(paths, is(path[:len(path)-1])), path[len(path)-1]
	if around < 0 || l[from[around]].Kind == api.EvText {
		return nil, api.ErrNone
	}
	place := -1
	if i := slices.IndexFunc(paths, is(path)); i >= 0 {
		place = from[i]
	} else if before := append(slices.Clone(path[:len(path)-1]), last-1); last == 0 || slices.ContainsFunc(paths, is(before)) {
		place = to[around] - 1
	}
	if place < 0 {
		return nil, api.ErrNone
	}
	return slices.Insert(slices.Clone(l), place, modelEvents(c.x)...), api.OK
}

// modelAt makes the edits but Insert.
func (c change) modelAt(l []api.Event, path []int) ([]api.Event, api.Errno) {
	paths, from, to := modelPlaces(l)
	i := slices.IndexFunc(paths, func(p []int) bool { return slices.Equal(p, path) })
	if i < 0 {
		return nil, api.ErrNone
	}
	l = slices.Clone(l)
	e := &l[from[i]]
	switch {
	case c.kind == "Delete":
		return slices.Delete(l, from[i], to[i]), api.OK
	case (c.kind == "SetText") != (e.Kind == api.EvText):
		return nil, api.ErrDown
	case c.kind == "SetText":
		e.Text = c.text
		return l, api.OK
	case c.kind == "Rename":
		e.Name = c.name
		return l, api.OK
	}
	values := map[api.Name]string{}
	for _, a := range e.Attrs {
		values[a.Name] = a.Value
	}
	if c.kind == "SetAttr" {
		values[c.attr.Name] = c.attr.Value
	} else if _, there := values[c.name]; !there {
		return nil, api.ErrNone
	}
	if c.kind == "DropAttr" {
		delete(values, c.name)
	}
	e.Attrs = nil
	for name, value := range values {
		e.Attrs = append(e.Attrs, api.Attr{Name: name, Value: value})
	}
	slices.SortFunc(e.Attrs, func(a, b api.Attr) int {
		return strings.Compare(a.Name.Space+"\x00"+a.Name.Local, b.Name.Space+"\x00"+b.Name.Local)
	})
	return l, api.OK
}
