package scan

import (
	"maps"
	"slices"
	"strings"

	"gabarit/api"
	"gabarit/chars"
)

// model reads a text straight from the form in the chapter, by recursive descent, written apart from the program.
type model struct {
	text    string
	at      int
	events  []api.Event
	count   int // elements, attributes and texts
	waiting string
	begin   int // of waiting
}

type broken struct {
	at int
	e  api.Errno
}

// modeled is what Scan is to return.
func modeled(text string) (l []api.Event, at int, e api.Errno) {
	m := &model{text: text}
	defer func() {
		if b, ok := recover().(broken); ok {
			l, at, e = nil, b.at, b.e
		}
	}()
	m.document()
	return m.events, 0, api.OK
}

func (m *model) fail(at int, e api.Errno) { panic(broken{at, e}) }
func (m *model) ended() bool              { return m.at == len(m.text) }

// peek returns the next character, as it counts.
func (m *model) peek() rune {
	if m.ended() {
		m.fail(m.at, api.ErrEnd)
	}
	rest := m.text[m.at:]
	c := []rune(rest[:min(4, len(rest))])[0]
	if !strings.HasPrefix(rest, string(c)) || !isChar(c) {
		m.fail(m.at, api.ErrForm)
	}
	if m.at+len(string(c)) > 60000 {
		m.fail(60000, api.ErrLong)
	}
	if c == 13 {
		return 10
	}
	return c
}

func isChar(c rune) bool {
	return c == 9 || c == 10 || c == 13 || 32 <= c && c <= 55295 || 57344 <= c && c <= 65533 || 65536 <= c && c <= 1114111
}

func (m *model) take() rune {
	c := m.peek()
	two := strings.HasPrefix(m.text[m.at:], "\r\n")
	m.at++
	if c >= 128 {
		m.at += len(string(c)) - 1
	}
	if two && m.at == 60000 {
		m.fail(60000, api.ErrLong)
	}
	if two {
		m.at++
	}
	return c
}

func (m *model) need(ok bool) {
	if !ok {
		m.fail(m.at, api.ErrSyntax)
	}
}

func (m *model) word(s string) {
	for _, c := range s {
		m.need(m.peek() == c)
		m.take()
	}
}

func (m *model) blanks() bool {
	some := false
	for chars.Blank(m.peek()) {
		some = true
		m.take()
	}
	return some
}

func (m *model) document() {
	root := false
	for !root || !m.ended() {
		less := m.at
		if chars.Blank(m.peek()) {
			m.take()
			continue
		}
		m.word("<")
		if m.peek() == '!' {
			m.word("!--")
			m.comment()
			continue
		}
		m.need(!root)
		m.element(less, 1, map[string]string{"": "", "xml": "xml"})
		root = true
	}
}

func (m *model) comment() {
	for m.take() != '-' || m.peek() != '-' {
	}
	m.word("->")
}

func (m *model) part() string {
	m.need(chars.First(m.peek()))
	s := string(m.take())
	for chars.Inner(m.peek()) {
		s += string(m.take())
	}
	return s
}

func (m *model) raw() string {
	s := m.part()
	if m.peek() == ':' {
		m.take()
		s += ":" + m.part()
	}
	return s
}

func (m *model) reference() string {
	begin, s := m.at, ""
	m.word("&")
	for m.peek() != ';' {
		c := m.peek()
		if !strings.ContainsRune("#0123456789abcdefghijklmnopqrstuvwxyzABCDEFGHIJKLMNOPQRSTUVWXYZ", c) || len(s) == 24 {
			m.fail(begin, api.ErrEntity)
		}
		s += string(m.take())
	}
	x, _, e := chars.Unescape("&" + s + ";")
	if e != api.OK {
		m.fail(begin, api.ErrEntity)
	}
	m.take()
	return x
}

func (m *model) value() string {
	quote, s := m.peek(), ""
	m.need(quote == '"' || quote == '\'')
	m.take()
	for m.peek() != quote {
		m.need(m.peek() != '<')
		if m.peek() == '&' {
			s += m.reference()
		} else if c := m.take(); chars.Blank(c) {
			s += " "
		} else {
			s += string(c)
		}
	}
	m.take()
	return s
}

// rawAttribute is an attribute as it stands, with the place of its name.
type rawAttribute struct {
	raw, value string
	at         int
}

func (m *model) attributes() []rawAttribute {
	var l []rawAttribute
	for {
		blanks := m.blanks()
		if m.peek() == '/' || m.peek() == '>' {
			return l
		}
		m.need(blanks)
		a := rawAttribute{at: m.at}
		a.raw = m.raw()
		m.blanks()
		m.word("=")
		m.blanks()
		a.value = m.value()
		l = append(l, a)
	}
}

func (m *model) element(less, depth int, spaces map[string]string) {
	raw := m.raw()
	l := m.attributes()
	slash := m.at
	if m.peek() == '/' {
		m.take()
		m.need(m.peek() == '>')
		spaces = m.begun(less, depth, raw, l, spaces)
		m.take()
		m.events = append(m.events, api.Event{Kind: api.EvEnd, At: slash})
		return
	}
	spaces = m.begun(less, depth, raw, l, spaces)
	m.take()
	less = m.content(depth, spaces)
	end := m.raw()
	m.blanks()
	m.need(m.peek() == '>')
	m.tell()
	if end != raw {
		m.fail(less, api.ErrTag)
	}
	m.take()
	m.events = append(m.events, api.Event{Kind: api.EvEnd, At: less})
}

// begun examines a start tag at its ">", and returns the spaces that hold in the element.
func (m *model) begun(less, depth int, raw string, l []rawAttribute, around map[string]string) map[string]string {
	m.tell()
	for i, a := range l {
		if slices.ContainsFunc(l[:i], func(b rawAttribute) bool { return a.raw == b.raw }) {
			m.fail(a.at, api.ErrAttr)
		}
	}
	spaces := maps.Clone(around)
	l = slices.DeleteFunc(l, func(a rawAttribute) bool {
		prefix, is := strings.CutPrefix(a.raw, "xmlns:")
		if a.raw == "xmlns" {
			prefix, is = "", true
		}
		if is && (prefix == "xml" || prefix == "xmlns" || prefix != "" && a.value == "") {
			m.fail(less, api.ErrPrefix)
		}
		if is {
			spaces[prefix] = a.value
		}
		return is
	})
	m.meant(less, depth, raw, l, spaces)
	return spaces
}

// meant gives out the start of an element.
func (m *model) meant(less, depth int, raw string, l []rawAttribute, spaces map[string]string) {
	name := func(raw string, attribute bool) api.Name {
		prefix, local, ok := strings.Cut(raw, ":")
		if !ok {
			prefix, local = "", raw
		}
		space, known := spaces[prefix]
		if !known {
			m.fail(less, api.ErrPrefix)
		}
		if attribute && prefix == "" {
			space = ""
		}
		return api.Name{Space: space, Local: local}
	}
	start := api.Event{Kind: api.EvStart, Name: name(raw, false), At: less}
	all := []api.Name{start.Name}
	for _, a := range l {
		start.Attrs = append(start.Attrs, api.Attr{Name: name(a.raw, true), Value: a.value})
		all = append(all, name(a.raw, true))
	}
	slices.SortFunc(start.Attrs, func(a, b api.Attr) int {
		return strings.Compare(a.Name.Space+"\x00"+a.Name.Local, b.Name.Space+"\x00"+b.Name.Local)
	})
	for i := 1; i < len(start.Attrs); i++ {
		if start.Attrs[i].Name == start.Attrs[i-1].Name {
			m.fail(less, api.ErrAttr)
		}
	}
	m.count += len(all)
	if depth > 40 || m.count > 300 || slices.ContainsFunc(all, func(n api.Name) bool { return len(n.Local) > 200 || len(n.Space) > 200 }) {
		m.fail(less, api.ErrLong)
	}
	m.events = append(m.events, start)
}

// add adds characters to the text that waits.
func (m *model) add(begin int, s string) {
	if m.waiting == "" {
		m.begin = begin
	}
	m.waiting += s
}

// tell gives out the text that waits.
func (m *model) tell() {
	if m.waiting == "" {
		return
	}
	if m.count++; m.count > 300 {
		m.fail(m.begin, api.ErrLong)
	}
	m.events = append(m.events, api.Event{Kind: api.EvText, Text: m.waiting, At: m.begin})
	m.waiting = ""
}

// content returns the place of the "<" of the end tag, of whose "</" it is behind.
func (m *model) content(depth int, spaces map[string]string) int {
	run := "" // the characters that stand as themselves, one behind the other
	for {
		begin := m.at
		switch m.peek() {
		case '<':
			m.take()
			if m.peek() == '/' {
				m.take()
				return begin
			}
			m.marked(begin, depth, spaces)
			run = ""
		case '&':
			m.add(begin, m.reference())
			run = ""
		default:
			m.need(m.peek() != '>' || !strings.HasSuffix(run, "]]"))
			c := string(m.take())
			run += c
			m.add(begin, c)
		}
	}
}

// marked is behind a "<" in content, and not before a "/".
func (m *model) marked(less, depth int, spaces map[string]string) {
	if m.peek() != '!' {
		m.element(less, depth+1, spaces)
		return
	}
	m.take()
	if m.peek() == '-' {
		m.word("--")
		m.comment()
		return
	}
	m.word("[CDATA[")
	s := ""
	for !strings.HasSuffix(s, "]]>") {
		s += string(m.take())
	}
	if s = s[:len(s)-3]; s != "" {
		m.add(less, s)
	}
}
