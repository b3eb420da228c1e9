package scan

import (
	"fmt"
	"strings"
	"testing"

	"gabarit/api"
)

// show writes events as lines, with all their fields.
func show(l []api.Event) string {
	var b strings.Builder
	for _, e := range l {
		if e.Kind == api.EvEnd && fmt.Sprint(e) == fmt.Sprint(api.Event{Kind: api.EvEnd, At: e.At}) {
			fmt.Fprintf(&b, "end @%d\n", e.At)
		} else if e.Kind == api.EvText && e.Name == (api.Name{}) && len(e.Attrs) == 0 {
			fmt.Fprintf(&b, "%q @%d\n", e.Text, e.At)
		} else if e.Kind == api.EvStart && e.Text == "" {
			fmt.Fprintf(&b, "%s", nameOf(e.Name))
			for _, a := range e.Attrs {
				fmt.Fprintf(&b, " %s=%q", nameOf(a.Name), a.Value)
			}
			fmt.Fprintf(&b, " @%d\n", e.At)
		} else {
			fmt.Fprintf(&b, "wrong: %v\n", e)
		}
	}
	return b.String()
}

func nameOf(n api.Name) string {
	if n.Space == "" {
		return n.Local
	}
	return n.Space + "|" + n.Local
}

// outcome is what comes of a text: the events, or the error and its place.
type outcome struct {
	events string
	at     int
	e      api.Errno
}

func scanned(text string) outcome {
	l, at, e := Scan(text)
	return outcome{show(l), at, e}
}

// fed is what comes of a text in pieces. It goes on behind an error, with which nothing may change any more.
func fed(t *testing.T, pieces []string) outcome {
	t.Helper()
	s, o, given := New(), outcome{}, 0
	take := func(l []api.Event, e api.Errno) {
		if e != api.OK && len(l) != 0 {
			t.Fatalf("%q: events with the error %d", pieces, e)
		}
		if o.e != api.OK && (e != o.e || s.At() != o.at) {
			t.Fatalf("%q: %d at %d behind %d at %d", pieces, e, s.At(), o.e, o.at)
		}
		if e != api.OK {
			o = outcome{"", s.At(), e}
			return
		}
		o.events += show(l)
		if s.At() != given {
			t.Fatalf("%q: At %d behind %d bytes", pieces, s.At(), given)
		}
	}
	for _, p := range pieces {
		given += len(p)
		take(s.Feed(p))
	}
	if take(s.End()); o.e == api.OK {
		if _, e := s.End(); e != api.ErrDown {
			t.Fatalf("%q: %d behind the end", pieces, e)
		}
	}
	return o
}

// eachByte is the pieces of one byte each.
func eachByte(text string) []string {
	l := make([]string, len(text))
	for i := range l {
		l[i] = text[i : i+1]
	}
	return l
}

// comes checks the outcome of a text as a whole and in pieces.
func comes(t *testing.T, text string, want outcome) {
	t.Helper()
	short := text
	if len(short) > 100 {
		short = short[:100] + ".."
	}
	if got := scanned(text); got != want {
		t.Errorf("%q: %d at %d\n%snot %d at %d\n%s", short, got.e, got.at, got.events, want.e, want.at, want.events)
		return
	}
	if got := fed(t, eachByte(text)); got != want {
		t.Errorf("%q, byte by byte: %d at %d\n%s", short, got.e, got.at, got.events)
	}
	for i := 0; i <= len(text) && len(text) <= 200; i++ {
		if got := fed(t, []string{text[:i], "", text[i:]}); got != want {
			t.Errorf("%q, cut at %d: %d at %d\n%s", short, i, got.e, got.at, got.events)
		}
	}
}

func reads(t *testing.T, text string, lines ...string) {
	t.Helper()
	comes(t, text, outcome{events: strings.Join(append(lines, ""), "\n")})
}

func fails(t *testing.T, text string, at int, e api.Errno) {
	t.Helper()
	comes(t, text, outcome{"", at, e})
}

// fill is a document of so many bytes: an element with one text.
func fill(bytes int) string {
	return "<a>" + strings.Repeat("t", bytes-len("<a></a>")) + "</a>"
}

// dice is a repeatable source of numbers.
type dice uint32

func (d *dice) below(n int) int {
	*d = *d*1664525 + 1013904223
	return int(*d>>8) % n
}

func (d *dice) of(l ...string) string { return l[d.below(len(l))] }

// some puts up to n words together.
func (d *dice) some(n int, word func() string) string {
	s := ""
	for range d.below(n + 1) {
		s += word()
	}
	return s
}

func (d *dice) blank() string { return d.of(" ", " ", "\t", "\n", "\r", "\r\n") }

func (d *dice) comment() string {
	return "<!--" + d.some(3, func() string { return d.of("x", " ", "- ", "-x", "]]>", "<a>", "&", "\r\n", "\u00e4") }) + "-->"
}

func (d *dice) cdata() string {
	return "<![CDATA[" + d.some(3, func() string { return d.of("x", "]", "]]", "<", "&", "]] >", "\r", "\n", "\u20ac", "-->") }) + "]]>"
}

func (d *dice) reference() string {
	return d.of("&lt;", "&gt;", "&amp;", "&quot;", "&apos;", "&#65;", "&#xe4;", "&#13;", "&#10;", "&#x0000000000000000009;")
}

func (d *dice) attribute() string {
	v := d.some(3, func() string {
		return d.of("u", "v", "w", " ", "\t", "\r\n", "\r", ">", "]]>", "&", "\u00e4")
	})
	name := d.of("x", "y", "p:x", "q:x", "xml:x", "p:y", "\u00e4", "z", "q:z", "xmlns:p", "xmlns:q", "xmlns")
	if strings.HasPrefix(name, "xmlns") {
		v = d.of("u", "v", "w", "u", "v", "&#117;")
	}
	v = strings.ReplaceAll(v, "&", d.reference())
	if d.below(2) == 0 {
		v = `"` + v + `"`
	} else {
		v = "'" + v + "'"
	}
	blanks := func() string { return d.some(d.below(2), d.blank) }
	return d.blank() + blanks() + name + blanks() + "=" + blanks() + v
}

// element is the text of an element, which often is as the chapter wants it.
func (d *dice) element(depth int, attributes string) string {
	name := d.of("a", "b", "p:a", "q:b", "xml:a", "c.d", "\u00e4")
	end := name
	if d.below(60) == 0 {
		end = d.of("a", "c", "p:b", "q:a")
	}
	start := "<" + name + attributes + d.some(3, d.attribute) + d.some(d.below(2), d.blank)
	if depth == 0 || d.below(4) == 0 {
		return start + "/>"
	}
	content := d.some(5, func() string {
		switch d.below(8) {
		case 0:
			return d.comment()
		case 1:
			return d.cdata()
		case 2:
			return d.reference()
		case 3, 4:
			return d.element(depth-1, "")
		}
		return d.of("t", "]", ">", "\"", "\r", "\n", "\r\n", " ", "\u00e4\U0001f600", "]] >", "]]")
	})
	return start + ">" + content + "</" + end + d.some(d.below(2), d.blank) + ">"
}

func (d *dice) document() string {
	around := func() string {
		return d.some(2, func() string {
			if d.below(3) == 0 {
				return d.comment()
			}
			return d.blank()
		})
	}
	return around() + d.element(3, d.of(` xmlns:p="u" xmlns:q="v"`, ` xmlns:p="u" xmlns:q="v"`, ` xmlns:p="u" xmlns:q="u"`, "", ` xmlns="w" xmlns:q='v' xmlns:p='xml'`)) + around()
}

// spoiled changes a text at some places.
func (d *dice) spoiled(text string) string {
	for range 1 + d.below(2) {
		i := d.below(len(text) + 1)
		j := min(len(text), i+d.below(4))
		in := d.of("", "", "<", ">", "/", "&", "&lt;", "&x;", ";", "]]>", "]", "--", "-", "<!--", "-->", "<![CDATA[", "=", "'", "\"", " ", "\r", "\n", ":", "a", "1", "x='1'", " xmlns:p=''", " xmlns=''", "</a>", "<b/>", "\xff", "\xc3", "\xe2\x82", "\x00", "\u00d7", "\ufffd", text[i:j])
		text = text[:i] + in + text[j:]
	}
	return text
}

// salad puts words together that stand in documents.
func (d *dice) salad() string {
	s := d.of("", "<a", "<a>", "<a xmlns:p='u'>")
	return s + d.some(8, func() string {
		return d.of("<", "<a", "<p:a", "</a>", "</", "</p:a", ">", "/>", "/", " ", "\r", "\r\n", "\n", " x='1'", " x", " p:x=''", "=", "'", "\"", "&", "&lt;", "&amp", ";", "#", "a", ":", "]", "]]", "]]>", "-", "--", "!", "<!", "<!-", "<!--", "-->", "<![", "<![CDATA[", "t", "\u00e4", "\xc3", "\xff", "\xf0\x9f", "\x01", " xmlns='v'", " xmlns:p='v'")
	})
}

// samples are n texts of all sorts.
func samples(n int) []string {
	d := dice(3)
	var l []string
	for len(l) < n {
		doc := d.document()
		l = append(l, doc, d.spoiled(doc), d.spoiled(d.document()), doc[:d.below(len(doc)+1)], d.salad())
	}
	return l
}
