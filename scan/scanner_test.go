package scan

import (
	"strings"
	"testing"

	"gabarit/api"
)

// feeds feeds a piece, and checks what it gives.
func feeds(t *testing.T, s *Scanner, piece string, want string, at int, e api.Errno) {
	t.Helper()
	l, f := s.Feed(piece)
	if got := strings.ReplaceAll(show(l), "\n", "; "); got != want || f != e || s.At() != at || e != api.OK && len(l) != 0 {
		t.Errorf("Feed(%.40q): %s%d at %d", piece, got, f, s.At())
	}
}

func ends(t *testing.T, s *Scanner, at int, e api.Errno) {
	t.Helper()
	if l, f := s.End(); len(l) != 0 || f != e || s.At() != at {
		t.Errorf("End: %s, %d at %d", show(l), f, s.At())
	}
}

func TestWhenEventsAreNew(t *testing.T) { // P3.2, P3.3
	s := New()
	feeds(t, s, "", "", 0, api.OK)
	feeds(t, s, " <a x='1'", "", 9, api.OK)
	feeds(t, s, ">", `a x="1" @1; `, 10, api.OK)
	feeds(t, s, "t", "", 11, api.OK)
	feeds(t, s, "<!-- c -->&l", "", 23, api.OK)
	feeds(t, s, "t;<b/", "", 28, api.OK)
	feeds(t, s, ">u", `"t<" @10; b @25; end @27; `, 30, api.OK)
	feeds(t, s, "</a", "", 33, api.OK)
	feeds(t, s, " ", "", 34, api.OK)
	feeds(t, s, "><!--", `"u" @29; end @30; `, 39, api.OK)
	feeds(t, s, "--> ", "", 43, api.OK)
	ends(t, s, 43, api.OK)

	s = New()
	feeds(t, s, "<a>t", `a @0; `, 4, api.OK)
	feeds(t, s, "<b>u</b>v<c>", `"t" @3; b @4; "u" @7; end @8; "v" @12; c @13; `, 16, api.OK)
	feeds(t, s, "</c></a>", `end @16; end @20; `, 24, api.OK)
	feeds(t, s, "\xc3", "", 25, api.OK)
	ends(t, s, 24, api.ErrForm)
}

func TestCallsBehindAnError(t *testing.T) { // P3.2, P3.3
	s := New()
	feeds(t, s, "<a>t", `a @0; `, 4, api.OK)
	feeds(t, s, "<b>&x;<c/>", "", 7, api.ErrEntity) // no events with an error
	for range 3 {
		feeds(t, s, "", "", 7, api.ErrEntity)
		feeds(t, s, "</b></a>", "", 7, api.ErrEntity)
		feeds(t, s, "\xff", "", 7, api.ErrEntity)
		ends(t, s, 7, api.ErrEntity)
	}
	for text, want := range map[string]struct {
		at int
		e  api.Errno
	}{"<a></b>": {3, api.ErrTag}, "<a x='' x=''/>": {8, api.ErrAttr}, "<p:a/>": {0, api.ErrPrefix}, "x": {0, api.ErrSyntax}, "<a>\x00": {3, api.ErrForm}, fill(60001): {60000, api.ErrLong}, strings.Repeat("<a>", 41): {120, api.ErrLong}} {
		s := New()
		for range 3 {
			feeds(t, s, text, "", want.at, want.e)
			ends(t, s, want.at, want.e)
		}
	}
	// behind an error of End, too
	s = New()
	feeds(t, s, "<a>", `a @0; `, 3, api.OK)
	ends(t, s, 3, api.ErrEnd)
	feeds(t, s, "</a>", "", 3, api.ErrEnd)
	ends(t, s, 3, api.ErrEnd)
	s = New()
	ends(t, s, 0, api.ErrEnd)
	feeds(t, s, "<a/>", "", 0, api.ErrEnd)
}

func TestCallsBehindEnd(t *testing.T) { // P3.2, P3.3
	s := New()
	feeds(t, s, "<a/> ", `a @0; end @2; `, 5, api.OK)
	ends(t, s, 5, api.OK)
	for range 3 {
		feeds(t, s, "", "", 5, api.ErrDown)
		feeds(t, s, " ", "", 5, api.ErrDown)
		feeds(t, s, "x\xff", "", 5, api.ErrDown)
		ends(t, s, 5, api.ErrDown)
	}
}

func TestNoScanner(t *testing.T) { // P3.2, R5
	made := New()
	copied := *made
	for i, s := range []*Scanner{nil, {}, new(Scanner), &copied} {
		for range 2 {
			if l, e := s.Feed("<a/>"); len(l) != 0 || e != api.ErrNil {
				t.Errorf("%d: Feed: %v, %d", i, l, e)
			}
			if l, e := s.End(); len(l) != 0 || e != api.ErrNil {
				t.Errorf("%d: End: %v, %d", i, l, e)
			}
			if at := s.At(); at != 0 {
				t.Errorf("%d: At: %d", i, at)
			}
		}
	}
	feeds(t, made, "<a/>", `a @0; end @2; `, 4, api.OK) // the one that was copied is as before
	ends(t, made, 4, api.OK)
}

func TestErrorsOfScan(t *testing.T) { // P3.1, R2
	if l, at, e := Scan("<a>t<b/></c>"); len(l) != 0 || at != 8 || e != api.ErrTag {
		t.Errorf("%v at %d, %d", l, at, e)
	}
	if l, at, e := Scan(" <a>t</a> "); len(l) != 3 || at != 0 || e != api.OK {
		t.Errorf("%v at %d, %d", l, at, e)
	}
}
