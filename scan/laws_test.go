package scan

import (
	"strings"
	"testing"

	"gabarit/api"
	"gabarit/names"
)

// agrees compares Scan with the model, and returns the error.
func agrees(t *testing.T, text string) api.Errno {
	t.Helper()
	l, at, e := modeled(text)
	want := outcome{show(l), at, e}
	if got := scanned(text); got != want {
		t.Fatalf("%q: %d at %d\n%snot %d at %d\n%s", text, got.e, got.at, got.events, want.e, want.at, want.events)
	}
	return e
}

func TestScanAgrees(t *testing.T) { // P3.1
	met := map[api.Errno]int{}
	for _, text := range samples(40000) {
		met[agrees(t, text)]++
	}
	for _, e := range []api.Errno{api.OK, api.ErrForm, api.ErrSyntax, api.ErrTag, api.ErrAttr, api.ErrPrefix, api.ErrEntity, api.ErrEnd} {
		if met[e] < 200 {
			t.Errorf("%d only %d times", e, met[e])
		}
	}
}

// TestBoundsAgree compares Scan with the model where bounds are near.
func TestBoundsAgree(t *testing.T) { // P3.1
	d, met := dice(7), map[api.Errno]int{}
	for i, text := range samples(1500) {
		deep, many := 36+d.below(5), 280+d.below(20)
		met[agrees(t, strings.Repeat("<d>", deep)+text+strings.Repeat("</d>", deep))]++
		met[agrees(t, "<m>"+strings.Repeat("<b/>", many)+text+"</m>")]++
		if i%10 == 0 {
			met[agrees(t, "<!--"+strings.Repeat("x", 60000-len("<!---->")-d.below(len(text)+3))+"-->"+text)]++
		}
	}
	if met[api.OK] < 200 || met[api.ErrLong] < 200 {
		t.Errorf("%v", met)
	}
}

func TestPiecesAgree(t *testing.T) { // P3.2, P3.3, P3.4
	d := dice(5)
	for i, text := range samples(8000) {
		want := scanned(text)
		pieces := eachByte(text)
		if i%2 == 0 {
			pieces = nil
			for rest := text; rest != ""; {
				n := min(len(rest), d.below(9))
				pieces, rest = append(pieces, rest[:n]), rest[n:]
			}
		}
		if got := fed(t, pieces); got != want {
			t.Fatalf("%q: %d at %d\n%snot %d at %d\n%s", pieces, got.e, got.at, got.events, want.e, want.at, want.events)
		}
	}
}

// TestErrorInAnyCase compares what Feed says of a text with what may follow it.
func TestErrorInAnyCase(t *testing.T) { // P3.2
	follow := []string{"", "<", ">", "x", "\x80", "\x80\x80", "\x80\x80\x80", "\xbd", "\xa0\x80", "\x90\x80\x80", "\n", "--></a>", "\xff", "</a>"}
	for _, text := range samples(1000) {
		for i := range len(text) + 1 {
			s := New()
			_, e := s.Feed(text[:i])
			outcomes := map[outcome]bool{}
			for _, x := range follow {
				o := scanned(text[:i] + x)
				o.events = ""
				outcomes[o] = true
			}
			sure := len(outcomes) == 1 && !outcomes[outcome{}]
			if sure != (e != api.OK) || e != api.OK && !outcomes[outcome{"", s.At(), e}] {
				t.Fatalf("%q: %d at %d, %v", text[:i], e, s.At(), outcomes)
			}
			if e != api.OK {
				break
			}
		}
	}
}

// TestEventsComeAtTags checks that the events of a tag, and of a text before it, come with the ">" of the tag.
func TestEventsComeAtTags(t *testing.T) { // P3.2
	for _, text := range samples(5000) {
		s := New()
		for i, p := range eachByte(text) {
			l, e := s.Feed(p)
			if e != api.OK {
				break
			}
			kinds := ""
			for _, x := range l {
				kinds += string("?sxe"[x.Kind])
			}
			if !strings.Contains(" s e se xs xe xse ", " "+kinds+" ") && kinds != "" || kinds != "" && p != ">" {
				t.Fatalf("%q: %s with byte %d of", text, kinds, i)
			}
		}
	}
}

func TestEventsNest(t *testing.T) { // P3.5
	documents := 0
	for _, text := range samples(10000) {
		l, _, e := Scan(text)
		if e != api.OK {
			continue
		}
		documents++
		depth := 0
		for i, x := range l {
			switch x.Kind {
			case api.EvStart:
				depth++
			case api.EvEnd:
				depth--
			default:
				if x.Kind != api.EvText || x.Text == "" || l[i-1].Kind == api.EvText {
					t.Fatalf("%q: a text that may not be:\n%s", text, show(l))
				}
			}
			if depth < 1 && i < len(l)-1 || i > 0 && x.At <= l[i-1].At {
				t.Fatalf("%q: event %d of\n%s", text, i, show(l))
			}
			for k := 1; k < len(x.Attrs); k++ {
				if !names.Less(x.Attrs[k-1].Name, x.Attrs[k].Name) {
					t.Fatalf("%q: attributes of\n%s", text, show(l))
				}
			}
		}
		if depth != 0 || l[0].Kind != api.EvStart {
			t.Fatalf("%q:\n%s", text, show(l))
		}
	}
	if documents < 1000 {
		t.Errorf("%d documents", documents)
	}
}

func TestResultsAreNew(t *testing.T) { // R3
	const text = `<a x="1" y="2">t<b z="3"/><c z="3"/></a>`
	spoil := func(l []api.Event) {
		for i := range l {
			for k := range l[i].Attrs {
				l[i].Attrs[k] = api.Attr{Value: "spoiled"}
			}
			_ = append(l[i].Attrs, api.Attr{Value: "spoiled"})
			l[i] = api.Event{}
		}
		_ = append(l, api.Event{}, api.Event{})
	}
	want := scanned(text).events
	l, _, _ := Scan(text)
	spoil(l)
	if got := scanned(text).events; got != want {
		t.Errorf("Scan again:\n%s", got)
	}
	s, got := New(), ""
	for _, p := range eachByte(text) {
		l, _ := s.Feed(p)
		got += show(l)
		spoil(l)
	}
	if got != want {
		t.Errorf("Feed:\n%s", got)
	}
	l, _, _ = Scan(text)
	l[2].Attrs[0].Value = "other"
	_ = append(l[0].Attrs, api.Attr{Value: "other"})
	_ = append(l[2].Attrs, api.Attr{Value: "other"})
	if l[2].Attrs[0].Value != "other" || l[4].Attrs[0].Value != "3" || l[0].Attrs[1].Value != "2" {
		t.Error("attributes of events share memory")
	}
}

func TestScannersAreIndependent(t *testing.T) { // R6
	texts := []string{"<a>t<b/></a>", "<p:a xmlns:p='u'><p:b/>&lt;</p:a>", "<a></b>", "<a/><!-- c -->"}
	var l []*Scanner
	got := make([]string, len(texts))
	for range texts {
		l = append(l, New())
	}
	for i := range 60 {
		for k, text := range texts {
			if i < len(text) {
				events, _ := l[k].Feed(text[i : i+1])
				got[k] += show(events)
			}
		}
	}
	for k, text := range texts {
		_, e := l[k].End()
		if want := scanned(text); e != want.e || e == api.OK && got[k] != want.events {
			t.Errorf("%q: %d\n%s", text, e, got[k])
		}
	}
}

func TestNothingPanics(t *testing.T) { // R1
	l := []string{"", "\xff", "\xf0\x9f\x98", strings.Repeat("<a>", 70000), strings.Repeat("<", 70000), strings.Repeat("&", 70000), strings.Repeat("]", 70000), strings.Repeat("-", 70000), strings.Repeat("\r", 70000), strings.Repeat("\xf0", 70000)}
	for a := range 256 {
		l = append(l, string([]byte{byte(a)}), "<a"+string([]byte{byte(a)}), "<a>"+string([]byte{byte(a)}), "<a x='"+string([]byte{byte(a)})+"'/>")
	}
	for _, before := range []string{"", "<", "<a", "<a ", "<a x", "<a x=", "<a x='", "<a x='&", "<a/", "<a>", "<a>&", "<a>]]", "<a></", "<a></a", "<a/><", "<!", "<!-", "<!--", "<!--x--", "<a><!", "<a><![", "<a><![CDATA[", "<a><![CDATA[]]", "<a:", "<a/>"} {
		for _, x := range l {
			Scan(before + x)
			s := New()
			s.Feed(before)
			s.Feed(x)
			s.Feed(x)
			s.End()
			s.Feed(before)
			s.At()
		}
	}
}
