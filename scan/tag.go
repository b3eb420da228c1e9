package scan

import (
	"slices"

	"gabarit/api"
	"gabarit/names"
)

// rawName is a name as it stands in the text. Without a colon, its prefix is empty.
type rawName struct{ prefix, local string }

// declares returns the prefix that an attribute with this raw name declares, and whether it does.
func (n rawName) declares() (string, bool) {
	if n.prefix == "xmlns" {
		return n.local, true
	}
	return "", n == rawName{local: "xmlns"}
}

// attribute is an attribute as it stands in a tag.
type attribute struct {
	rawName
	at    int
	value string
}

// tag is a tag as it stands in the text.
type tag struct {
	at, slash  int // the bytes of its "<" and its "/"
	name       rawName
	attributes []attribute
}

// twice returns the place of the first attribute with a raw name that an attribute before it has as well, and whether there is one.
func (t tag) twice() (int, bool) {
	seen := map[rawName]bool{}
	for _, a := range t.attributes {
		if seen[a.rawName] {
			return a.at, true
		}
		seen[a.rawName] = true
	}
	return 0, false
}

// declared returns the spaces that a tag declares, by their prefixes, and whether all of that may be declared.
func (t tag) declared() (map[string]string, bool) {
	spaces := map[string]string{}
	for _, a := range t.attributes {
		prefix, declares := a.declares()
		if !declares {
			continue
		}
		if prefix == "xml" || prefix == "xmlns" || prefix != "" && a.value == "" {
			return nil, false
		}
		spaces[prefix] = a.value
	}
	return spaces, true
}

// scope is an open element. It embeds the one around it, whose spaces hold in it too.
type scope struct {
	*scope
	start  rawName // of its start tag
	depth  int
	spaces map[string]string // that are declared in it, by their prefixes
}

// outermost is around the root element.
func outermost() *scope {
	return &scope{spaces: map[string]string{"": "", "xml": "xml"}}
}

// space returns the space of a prefix, and whether it has one.
func (s *scope) space(prefix string) (string, bool) {
	if s == nil {
		return "", false
	}
	if space, ok := s.spaces[prefix]; ok {
		return space, true
	}
	return s.scope.space(prefix)
}

func (s *scope) name(n rawName) (api.Name, bool) {
	space, ok := s.space(n.prefix)
	return api.Name{Space: space, Local: n.local}, ok
}

// attributeName differs from name in that the empty prefix has the empty space, whatever is declared.
func (s *scope) attributeName(n rawName) (api.Name, bool) {
	if n.prefix == "" {
		return api.Name{Local: n.local}, true
	}
	return s.name(n)
}

// attributes returns the attributes of a tag, but the declarations, ascending by their names; false if a prefix has no space.
func (s *scope) attributes(t tag) ([]api.Attr, bool) {
	var l []api.Attr
	for _, a := range t.attributes {
		if _, declares := a.declares(); declares {
			continue
		}
		n, ok := s.attributeName(a.rawName)
		if !ok {
			return nil, false
		}
		l = append(l, api.Attr{Name: n, Value: a.value})
	}
	slices.SortFunc(l, compare)
	return l, true
}

func compare(a, b api.Attr) int {
	switch {
	case names.Less(a.Name, b.Name):
		return -1
	case names.Less(b.Name, a.Name):
		return 1
	}
	return 0
}

// enter returns the element that a start tag opens in another one, and the event of that.
func (s *scope) enter(t tag) (*scope, api.Event, api.Errno) {
	spaces, ok := t.declared()
	if !ok {
		return nil, api.Event{}, api.ErrPrefix
	}
	inner := &scope{scope: s, start: t.name, depth: s.depth + 1, spaces: spaces}
	name, ok := inner.name(t.name)
	attrs, all := inner.attributes(t)
	if !ok || !all {
		return nil, api.Event{}, api.ErrPrefix
	}
	long := inner.depth > api.MaxDeep || tooLong(name)
	for i, a := range attrs {
		if i > 0 && attrs[i-1].Name == a.Name {
			return nil, api.Event{}, api.ErrAttr
		}
		long = long || tooLong(a.Name)
	}
	if long {
		return nil, api.Event{}, api.ErrLong
	}
	return inner, api.Event{Kind: api.EvStart, Name: name, Attrs: attrs, At: t.at}, api.OK
}

func tooLong(n api.Name) bool {
	return len(n.Local) > api.MaxWord || len(n.Space) > api.MaxWord
}
