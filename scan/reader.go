package scan

import (
	"strings"
	"unicode/utf8"

	"gabarit/api"
	"gabarit/chars"
)

// reader reads a text character by character, until there is an error.
type reader struct {
	state func(c rune)      // takes the next character
	hand  func(e api.Event) // takes the events
	err   api.Errno
	place int // of the error

	at       int    // the byte of the character that is read
	rest     string // bytes that may be some of those of a character
	behind13 bool
	whole    bool   // what was read is a document
	done     bool   // the root element has ended
	scope    *scope // the innermost open element
	nodes    int    // elements, attributes and texts

	behind  func(c rune)   // the state behind what is read
	missing string         // of a word that must come
	run     int            // how many signs that may begin an end stand together
	raw     []byte         // of a raw name or a reference
	rawAt   int            // where it begins
	put     func(s string) // takes the character of a reference

	tag    tag
	value  []byte // of an attribute
	quote  rune   // around it
	text   []byte // what waits for a tag behind it
	textAt int
}

func newReader() *reader {
	r := &reader{scope: outermost()}
	r.state = r.outside
	return r
}

func (r *reader) fail(at int, e api.Errno) { r.place, r.err = at, e }

// wrong is called at a character with which no document can go on.
func (r *reader) wrong() { r.fail(r.at, api.ErrSyntax) }

// read reads the characters of a piece. Bytes at its end that are not all of those of a character wait for the next piece.
func (r *reader) read(piece string, hand func(e api.Event)) {
	r.hand = hand
	text := r.rest + piece
	for utf8.FullRuneInString(text) {
		c, size := utf8.DecodeRuneInString(text)
		if r.character(c, size); r.err != api.OK {
			return
		}
		text = text[size:]
	}
	r.hand, r.rest = nil, strings.Clone(text)
}

func (r *reader) character(c rune, size int) {
	is13 := c == 13
	switch {
	case c == utf8.RuneError && size == 1 || !chars.Valid(c): // the character 65533 has more bytes
		r.fail(r.at, api.ErrForm)
	case r.at+size > api.MaxText:
		r.fail(api.MaxText, api.ErrLong)
	case is13:
		r.state(10)
	case c != 10 || !r.behind13:
		r.state(c)
	}
	r.behind13 = is13
	r.at += size
}

// end is called at the end of the text.
func (r *reader) end() {
	if r.rest != "" {
		r.fail(r.at, api.ErrForm)
	} else if !r.whole {
		r.fail(r.at, api.ErrEnd)
	}
}

func (r *reader) putValue(s string) { r.value = append(r.value, s...) }

// putText puts a character of a text that begins at this byte if there is none before.
func (r *reader) putText(at int, s string) {
	if len(r.text) == 0 {
		r.textAt = at
	}
	r.text = append(r.text, s...)
}

// handText hands over the text before a tag.
func (r *reader) handText() {
	if len(r.text) == 0 {
		return
	}
	if r.nodes == api.MaxNodes {
		r.fail(r.textAt, api.ErrLong)
		return
	}
	r.nodes++
	r.hand(api.Event{Kind: api.EvText, Text: string(r.text), At: r.textAt})
	r.text = nil
}

// startTag is called at the ">" of a start tag.
func (r *reader) startTag() {
	if r.handText(); r.err != api.OK {
		return
	}
	if at, twice := r.tag.twice(); twice {
		r.fail(at, api.ErrAttr)
		return
	}
	inner, event, e := r.scope.enter(r.tag)
	nodes := r.nodes + 1 + len(event.Attrs)
	if e == api.OK && nodes > api.MaxNodes {
		e = api.ErrLong
	}
	if e != api.OK {
		r.fail(r.tag.at, e)
		return
	}
	r.scope, r.nodes = inner, nodes
	r.hand(event)
	r.goOn()
}

// emptyTag is called at the ">" of a tag that starts an element and ends it.
func (r *reader) emptyTag() {
	if r.startTag(); r.err == api.OK {
		r.leave(r.tag.slash)
	}
}

// endTag is called at the ">" of an end tag.
func (r *reader) endTag() {
	if r.handText(); r.err != api.OK {
		return
	}
	if r.rawName() != r.scope.start {
		r.fail(r.tag.at, api.ErrTag)
		return
	}
	r.leave(r.tag.at)
}

// leave ends the innermost element.
func (r *reader) leave(at int) {
	r.hand(api.Event{Kind: api.EvEnd, At: at})
	r.scope = r.scope.scope
	r.done = !r.inside()
	r.goOn()
}
