package regex

import (
	"strings"
	"unicode/utf8"

	"gabarit/api"
	"gabarit/chars"
)

const none int32 = -1 // stands where no character comes next: at the end of a text, and where bytes are wrong

// wrongByte is what a reader leaves by: the place of the first byte that is wrong.
type wrongByte int

// reader has read a text up to a byte.
type reader struct {
	text string
	at   int
}

// read returns the expression of a text, or leaves by a panic with a wrongByte.
func read(text string) api.Regex {
	r := &reader{text: text}
	x := r.alternatives()
	if r.at < len(text) {
		panic(wrongByte(r.at))
	}
	return x
}

func (r *reader) next() int32 {
	c, size := utf8.DecodeRuneInString(r.text[r.at:])
	// The character 65533 is what the library returns for wrong bytes, too; its own are three.
	if c == utf8.RuneError && size < 2 || !chars.Valid(c) {
		return none
	}
	return c
}

// isNext reports whether one of some signs comes next.
func (r *reader) isNext(signs string) bool {
	c := r.next()
	return c != none && strings.ContainsRune(signs, c)
}

// take returns the next character, which must be there and as it is wanted, and goes on behind it.
func (r *reader) take(wanted bool) int32 {
	c := r.next()
	if c == none || !wanted {
		panic(wrongByte(r.at))
	}
	r.at += utf8.RuneLen(c)
	return c
}

func (r *reader) must(sign int32) { r.take(r.next() == sign) }

// skip goes on behind a sign if it comes next, and reports whether it does.
func (r *reader) skip(sign int32) bool {
	if r.next() != sign {
		return false
	}
	r.must(sign)
	return true
}

func (r *reader) alternatives() api.Regex {
	l := []api.Regex{r.sequence()}
	for r.skip('|') {
		l = append(l, r.sequence())
	}
	return several(api.RxAlt, l)
}

func (r *reader) sequence() api.Regex {
	var l []api.Regex
	for r.next() != none && !r.isNext("|)") {
		l = append(l, r.times())
	}
	if len(l) == 0 {
		return api.Regex{Kind: api.RxEmpty}
	}
	return several(api.RxSeq, l)
}

// several returns an expression of some Args; of a single one, that itself.
func several(kind int, args []api.Regex) api.Regex {
	if len(args) == 1 {
		return args[0]
	}
	return api.Regex{Kind: kind, Args: args}
}

func (r *reader) times() api.Regex {
	unit := r.unit()
	low, high := 0, endless
	switch {
	case r.skip('?'):
		high = 1
	case r.skip('*'):
	case r.skip('+'):
		low = 1
	case r.skip('{'):
		low, high = r.bounds()
	default:
		return unit
	}
	return api.Regex{Kind: api.RxTimes, Args: []api.Regex{unit}, Low: low, High: high}
}

// bounds reads what stands behind a {, and the } too.
func (r *reader) bounds() (low, high int) {
	low = r.number()
	high = low
	if r.skip(',') {
		high = endless
		if r.isNext(digits) {
			high = r.number()
		}
	}
	end := r.at
	r.must('}')
	if !areTimes(low, high) {
		panic(wrongByte(end))
	}
	return low, high
}

func (r *reader) number() int {
	n := r.digit()
	if n > 0 && r.isNext(digits) {
		n = 10*n + r.digit()
	}
	return n
}

func (r *reader) digit() int { return int(r.take(r.isNext(digits)) - '0') }

func (r *reader) unit() api.Regex {
	var set []api.Range
	switch r.next() {
	case '(':
		r.must('(')
		x := r.alternatives()
		r.must(')')
		return x
	case '[':
		set = r.set()
	case '.':
		r.must('.')
		set = allBut(lineEnds())
	case '\\':
		set = r.escape()
	default:
		set = only(r.take(!r.isNext(unitSigns)))
	}
	return api.Regex{Kind: api.RxSet, Set: set}
}

// set reads a set from its [ to its ].
func (r *reader) set() []api.Range {
	r.must('[')
	others := r.skip('^')
	l := r.item()
	for !r.isNext("-]") {
		l = append(l, r.item()...)
	}
	set := setOf(l)
	if others {
		set = allBut(set)
	}
	if r.skip('-') {
		set = merged(set, r.set(), firstOnly)
	}
	end := r.at
	r.must(']')
	if len(set) == 0 {
		panic(wrongByte(end))
	}
	return set
}

func (r *reader) item() []api.Range {
	if set := r.class(); set != nil {
		return set
	}
	low := r.single()
	// A - with a set behind it takes that away; it is none of an item.
	if r.next() != '-' || strings.HasPrefix(r.text[r.at:], "-[") {
		return only(low)
	}
	r.must('-')
	end := r.at
	high := r.single()
	if high < low {
		panic(wrongByte(end))
	}
	return []api.Range{{Low: low, High: high}}
}

// single reads a character of a set, or its escape.
func (r *reader) single() int32 {
	if r.next() == '\\' {
		return r.singleEscape()
	}
	return r.take(!r.isNext(setSigns))
}

// escape reads an escape of any kind, and returns its set.
func (r *reader) escape() []api.Range {
	if set := r.class(); set != nil {
		return set
	}
	return only(r.singleEscape())
}

func (r *reader) singleEscape() int32 {
	r.must('\\')
	c := r.take(r.isNext(escapes))
	if i := strings.IndexRune(letters, c); i >= 0 {
		return int32(lettered[i])
	}
	return c
}

// class reads a class escape and returns its set, if one comes next, and otherwise nothing.
func (r *reader) class() []api.Range {
	letter, ok := strings.CutPrefix(r.text[r.at:], "\\")
	if !ok || letter == "" {
		return nil
	}
	set := classOf(letter[0])
	if set != nil {
		r.at += len("\\d")
	}
	return set
}
