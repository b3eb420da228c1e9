package scan

import (
	"strings"
	"testing"

	"gabarit/api"
)

// repeated is n times s.
func repeated(n int, s string) string { return strings.Repeat(s, n) }

// counts checks that a text is a document with so many starts and texts.
func counts(t *testing.T, text string, starts, texts int) {
	t.Helper()
	l, _, e := Scan(text)
	for _, x := range l {
		switch x.Kind {
		case api.EvStart:
			starts--
		case api.EvText:
			texts--
		}
	}
	if e != api.OK || starts != 0 || texts != 0 {
		t.Errorf("%.60s..: %d, %d starts and %d texts too few", text, e, starts, texts)
	}
	if o := fed(t, eachByte(text)); o.e != api.OK || o.events != show(l) {
		t.Errorf("%.60s.., byte by byte: %d at %d", text, o.e, o.at)
	}
}

func TestMaxText(t *testing.T) { // P3.1
	counts(t, fill(60000), 1, 1)
	counts(t, fill(59998)+"\r\n", 1, 1)
	counts(t, fill(59994)[:59990]+"\u00e4\u20ac"+"</a>", 1, 1)
	fails(t, fill(60001), 60000, api.ErrLong)
	fails(t, fill(60000)+" ", 60000, api.ErrLong)
	fails(t, fill(60000)+"x", 60000, api.ErrLong) // this comes before ErrSyntax
	fails(t, fill(59999)+"\r\n", 60000, api.ErrLong)
	fails(t, fill(59999)+"x", 59999, api.ErrSyntax)
	fails(t, fill(59999)+"\u00e4", 60000, api.ErrLong) // it begins before the bound, and ends behind it
	fails(t, fill(59998)+"\u20ac", 60000, api.ErrLong)
	fails(t, fill(59998)+"\u00e4", 59998, api.ErrSyntax)
	fails(t, fill(59999)+"\xc3", 59999, api.ErrForm)
	fails(t, fill(59999)+"\xc3a", 59999, api.ErrForm)
	fails(t, fill(60000)+"\xff", 60000, api.ErrForm)
	fails(t, fill(60000)+"\xc3", 60000, api.ErrForm)
	fails(t, fill(60000)+" \xff", 60000, api.ErrLong)
	fails(t, "<a>"+repeated(59997, "t"), 60000, api.ErrEnd)
	fails(t, "<a>"+repeated(59998, "t"), 60000, api.ErrLong)
	fails(t, "<a>"+repeated(59993, "t")+"</b>", 59996, api.ErrTag)
	fails(t, "<a>"+repeated(59994, "t")+"</b>", 60000, api.ErrLong) // the ">" is not read
	fails(t, "<a>"+repeated(59992, "t")+"&lt;&", 60000, api.ErrEnd)
	s := New()
	s.Feed(fill(60000))
	if _, e := s.Feed("\xc3"); e != api.OK || s.At() != 60001 {
		t.Errorf("bytes that may be those of a character: %d at %d", e, s.At())
	}
	if _, e := s.Feed("\xa4"); e != api.ErrLong || s.At() != 60000 {
		t.Errorf("a character behind the bound: %d at %d", e, s.At())
	}
}

func TestMaxNodes(t *testing.T) { // P3.1
	counts(t, "<a>"+repeated(299, "<b/>")+"</a>", 300, 0)
	fails(t, "<a>"+repeated(300, "<b/>")+"</a>", 3+4*299, api.ErrLong)
	fails(t, "<a>"+repeated(299, "<b></b>")+"t</a>", 3+7*299, api.ErrLong)
	counts(t, "<a>"+repeated(298, "<b/>")+"t</a>", 299, 1)
	counts(t, "<a>t"+repeated(149, "<b/>t")+"</a>", 150, 150)
	fails(t, "<a>t"+repeated(149, "<b/>t")+"<b/></a>", 4+5*149, api.ErrLong)
	fails(t, "<a>t"+repeated(149, "<b/>t")+"<b/>t</a>", 4+5*149, api.ErrLong)
	// a text with comments and cdata in it is one
	counts(t, "<a>"+repeated(298, "<b/>")+"t<!---->t<![CDATA[t]]>&lt;</a>", 299, 1)
	// attributes count, declarations do not
	attributes := ""
	for i := range 299 {
		attributes += " x" + string(rune('a'+i/26)) + string(rune('a'+i%26)) + "=''"
	}
	counts(t, "<a"+attributes+"/>", 1, 0)
	counts(t, "<a xmlns='u' xmlns:p='v'"+attributes+"><!----></a>", 1, 0)
	fails(t, "<a y=''"+attributes+"/>", 0, api.ErrLong)
	fails(t, "<a"+attributes+"><b/></a>", 2+len(attributes)+1, api.ErrLong)
	fails(t, "<a"+attributes+">t</a>", 2+len(attributes)+1, api.ErrLong)
	fails(t, "<a>"+repeated(297, "<b/>")+"<c x='' y=''/></a>", 3+4*297, api.ErrLong)
	counts(t, "<a>"+repeated(297, "<b/>")+"<c x='' xmlns=''/></a>", 299, 0)
	// an error is where the text begins
	fails(t, "<a>"+repeated(299, "<b/>")+"<!----><![CDATA[]]><![CDATA[ ]]>t</a>", 3+4*299+19, api.ErrLong)
	// it is known at the tag behind the text alone
	s := New()
	if _, e := s.Feed("<a>" + repeated(299, "<b/>") + "t</a"); e != api.OK {
		t.Errorf("a text without a tag behind it: %d", e)
	}
	if _, e := s.Feed(">"); e != api.ErrLong || s.At() != 3+4*299 {
		t.Errorf("and with one: %d at %d", e, s.At())
	}
}

func TestMaxDeep(t *testing.T) { // P3.1
	counts(t, repeated(40, "<a>")+repeated(40, "</a>"), 40, 0)
	counts(t, repeated(39, "<a>")+"<b/><b/>"+repeated(39, "</a>"), 41, 0)
	counts(t, "<a>"+repeated(3, repeated(39, "<a>")+repeated(39, "</a>"))+"</a>", 118, 0)
	fails(t, repeated(41, "<a>"), 120, api.ErrLong)
	fails(t, repeated(40, "<a>")+"<b/>", 120, api.ErrLong)
	fails(t, repeated(40, "<a>")+"</a>"+"<a><a>", 127, api.ErrLong)
}

func TestMaxWord(t *testing.T) { // P3.1
	n200, n201 := repeated(200, "n"), repeated(201, "n")
	two200, two202 := repeated(100, "\u00e4"), repeated(101, "\u00e4")
	for _, n := range []string{n200, two200} {
		counts(t, "<"+n+"/>", 1, 0)
		counts(t, "<a "+n+"=''/>", 1, 0)
		counts(t, "<a xmlns='"+n+"'/>", 1, 0)
		counts(t, "<p:"+n+" xmlns:p='"+n+"'/>", 1, 0)
		counts(t, "<a p:"+n+"='' xmlns:p='"+n+"'/>", 1, 0)
	}
	for _, n := range []string{n201, two202} {
		fails(t, "<"+n+"/>", 0, api.ErrLong)
		fails(t, "<a><"+n+"></"+n+"></a>", 3, api.ErrLong)
		fails(t, "<a "+n+"=''/>", 0, api.ErrLong)
		fails(t, "<a xmlns='"+n+"'/>", 0, api.ErrLong)
		fails(t, "<p:a xmlns:p='"+n+"'/>", 0, api.ErrLong)
		fails(t, "<a p:x='' xmlns:p='"+n+"'/>", 0, api.ErrLong)
		fails(t, "<p:"+n+" xmlns:p='u'/>", 0, api.ErrLong)
		// where nothing has this space, and in declarations and prefixes, it does not matter
		counts(t, "<p:a xmlns:p='v' xmlns='"+n+"'/>", 1, 0)
		counts(t, "<a xmlns:p='"+n+"'/>", 1, 0)
		counts(t, "<a xmlns:"+n+"='u'/>", 1, 0)
		counts(t, "<"+n+":a xmlns:"+n+"='u' "+n+":x=''></"+n+":a>", 1, 0)
		counts(t, "<a xmlns='u' x='"+n+"'>"+n+"</a>", 1, 1)
		// it matters where an element has it
		fails(t, "<p:a xmlns:p='v' xmlns='"+n+"'><a xmlns=''/><b/></p:a>", len("<p:a xmlns:p='v' xmlns='"+n+"'><a xmlns=''/>"), api.ErrLong)
	}
}
