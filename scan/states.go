package scan

import (
	"bytes"
	"strings"

	"gabarit/api"
	"gabarit/chars"
)

// maxReference is how many characters a reference has between its & and its ;.
const maxReference = 24

func (r *reader) inside() bool { return r.scope.depth > 0 }

// goOn goes on behind a tag, a comment or a cdata.
func (r *reader) goOn() {
	r.run, r.state = 0, r.inContent
	if !r.inside() {
		r.state, r.whole = r.outside, r.done
	}
}

// count counts the signs that stand together.
func (r *reader) count(c, sign rune) {
	r.run++
	if c != sign {
		r.run = 0
	}
}

// outside is before the root element and behind it.
func (r *reader) outside(c rune) {
	if c == '<' {
		r.markup()
	} else if !chars.Blank(c) {
		r.wrong()
	}
}

func (r *reader) inContent(c rune) {
	switch {
	case c == '<':
		r.markup()
	case c == '&':
		at := r.at
		r.refer(func(s string) { r.putText(at, s) })
	case c == '>' && r.run >= len("]]"):
		r.wrong()
	default:
		r.count(c, ']')
		r.putText(r.at, string(c))
	}
}

// markup begins at a "<".
func (r *reader) markup() {
	r.tag, r.state, r.whole = tag{at: r.at}, r.behindLess, false
}

func (r *reader) behindLess(c rune) {
	switch {
	case c == '!':
		r.state = r.behindBang
	case c == '/' && r.inside():
		r.state = r.beforeEndName
	case chars.First(c) && !r.done:
		r.name(c, r.behindStartName)
	default:
		r.wrong()
	}
}

func (r *reader) behindBang(c rune) {
	switch {
	case c == '-':
		r.expect("-", r.inComment)
	case c == '[' && r.inside():
		r.expect("CDATA[", r.inCdata)
	default:
		r.wrong()
	}
}

// expect reads a word.
func (r *reader) expect(word string, behind func(c rune)) {
	r.run, r.missing, r.behind, r.state = 0, word, behind, r.inWord
}

func (r *reader) inWord(c rune) {
	if c != rune(r.missing[0]) {
		r.wrong()
		return
	}
	if r.missing = r.missing[1:]; r.missing == "" {
		r.state = r.behind
	}
}

func (r *reader) inComment(c rune) {
	switch {
	case r.run < len("--"):
		r.count(c, '-')
	case c == '>':
		r.goOn()
	default:
		r.wrong()
	}
}

func (r *reader) inCdata(c rune) {
	if c == '>' && r.run >= len("]]") {
		r.text = r.text[:len(r.text)-len("]]")]
		r.goOn()
		return
	}
	r.count(c, ']')
	r.putText(r.tag.at, string(c))
}

// refer begins a reference, behind which the present state goes on.
func (r *reader) refer(put func(s string)) {
	r.raw, r.rawAt, r.put, r.behind, r.state = nil, r.at, put, r.state, r.inReference
}

func (r *reader) inReference(c rune) {
	switch {
	case c == ';':
		s, _, e := chars.Unescape("&" + string(r.raw) + ";")
		if e != api.OK {
			r.fail(r.rawAt, api.ErrEntity)
			return
		}
		r.put(s)
		r.run, r.state = 0, r.behind
	case referring(c) && len(r.raw) < maxReference:
		r.raw = append(r.raw, byte(c))
	default:
		r.fail(r.rawAt, api.ErrEntity)
	}
}

// referring reports whether a character may stand in a reference.
func referring(c rune) bool {
	return 'a' <= c && c <= 'z' || 'A' <= c && c <= 'Z' || '0' <= c && c <= '9' || c == '#'
}

// name begins a raw name with its first character.
func (r *reader) name(c rune, behind func(c rune)) {
	r.raw, r.rawAt, r.behind, r.state = []byte(string(c)), r.at, behind, r.inName
}

func (r *reader) inName(c rune) {
	switch {
	case chars.Inner(c):
		r.raw = append(r.raw, string(c)...)
	case c == ':' && !bytes.ContainsRune(r.raw, ':'):
		r.raw, r.state = append(r.raw, ':'), r.behindColon
	default:
		r.state = r.behind
		r.state(c)
	}
}

func (r *reader) behindColon(c rune) {
	if !chars.First(c) {
		r.wrong()
		return
	}
	r.raw, r.state = append(r.raw, string(c)...), r.inName
}

// rawName returns the raw name that was read last.
func (r *reader) rawName() rawName {
	prefix, local, colon := strings.Cut(string(r.raw), ":")
	if !colon {
		return rawName{local: prefix}
	}
	return rawName{prefix: prefix, local: local}
}

func (r *reader) behindStartName(c rune) {
	r.tag.name = r.rawName()
	r.inTag(c)
}

// inTag is behind the name of a start tag, or a value.
func (r *reader) inTag(c rune) {
	switch {
	case chars.Blank(c):
		r.state = r.beforeAttribute
	case c == '/':
		r.tag.slash, r.state = r.at, r.behindSlash
	case c == '>':
		r.startTag()
	default:
		r.wrong()
	}
}

func (r *reader) behindSlash(c rune) {
	if c != '>' {
		r.wrong()
		return
	}
	r.emptyTag()
}

// beforeAttribute is behind blanks in a start tag.
func (r *reader) beforeAttribute(c rune) {
	if chars.First(c) {
		r.name(c, r.behindAttributeName)
		return
	}
	r.inTag(c)
}

func (r *reader) behindAttributeName(c rune) {
	if c == '=' {
		r.tag.attributes = append(r.tag.attributes, attribute{rawName: r.rawName(), at: r.rawAt})
		r.state = r.beforeValue
	} else if !chars.Blank(c) {
		r.wrong()
	}
}

func (r *reader) beforeValue(c rune) {
	if c == '"' || c == '\'' {
		r.value, r.quote, r.state = nil, c, r.inValue
	} else if !chars.Blank(c) {
		r.wrong()
	}
}

func (r *reader) inValue(c rune) {
	switch {
	case c == r.quote:
		r.tag.attributes[len(r.tag.attributes)-1].value = string(r.value)
		r.state = r.inTag
	case c == '<':
		r.wrong()
	case c == '&':
		r.refer(r.putValue)
	case chars.Blank(c):
		r.putValue(" ")
	default:
		r.putValue(string(c))
	}
}

func (r *reader) beforeEndName(c rune) {
	if !chars.First(c) {
		r.wrong()
		return
	}
	r.name(c, r.behindEndName)
}

func (r *reader) behindEndName(c rune) {
	if c == '>' {
		r.endTag()
	} else if !chars.Blank(c) {
		r.wrong()
	}
}
