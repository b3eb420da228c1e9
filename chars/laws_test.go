package chars

import (
	"slices"
	"strconv"
	"strings"
	"testing"

	"gabarit/api"
)

func TestKindsAgree(t *testing.T) { // P2.1
	for c := range numbers {
		if Valid(c) != isChar(c) || Blank(c) != isBlank(c) || First(c) != isFirst(c) || Inner(c) != isInner(c) {
			t.Fatalf("%d: %v, %v, %v, %v", c, Valid(c), Blank(c), First(c), Inner(c))
		}
	}
}

func TestLocalAgrees(t *testing.T) { // P2.1
	for c := range numbers {
		if isChar(c) && (Local(bytesOf(c)) != isFirst(c) || Local("a"+bytesOf(c)+"b") != isInner(c)) {
			t.Fatalf("%d: %v, %v", c, Local(bytesOf(c)), Local("a"+bytesOf(c)+"b"))
		}
	}
}

func TestEachCharacter(t *testing.T) { // P2.2, P2.6
	for c := range numbers {
		s, e := Encode([]int32{c})
		if !isChar(c) {
			if s != "" || e != api.ErrArg {
				t.Fatalf("Encode of %d: %q, %d", c, s, e)
			}
			continue
		}
		if s != bytesOf(c) || e != api.OK {
			t.Fatalf("Encode of %d: %q, %d", c, s, e)
		}
		if l, at, e := Decode(s); len(l) != 1 || l[0] != c || at != 0 || e != api.OK {
			t.Fatalf("Decode(%q): %v, %d, %d", s, l, at, e)
		}
	}
}

// decodes compares Decode with the definition.
func decodes(t *testing.T, s string) {
	t.Helper()
	want, wrong := reading(s)
	l, at, e := Decode(s)
	if wrong >= 0 && (len(l) != 0 || at != wrong || e != api.ErrForm) || wrong < 0 && (!slices.Equal(l, want) || at != 0 || e != api.OK) {
		t.Fatalf("Decode(%q): %v, %d, %d, not %v, %d", s, l, at, e, want, wrong)
	}
}

func TestEachStringOfBytes(t *testing.T) { // P2.2
	ends := []byte{0, 0x41, 0x7f, 0x80, 0x81, 0x8f, 0x90, 0x9f, 0xa0, 0xbd, 0xbe, 0xbf, 0xc0, 0xc3, 0xff}
	for a := range 256 {
		decodes(t, string([]byte{byte(a)}))
		for b := range 256 {
			decodes(t, string([]byte{byte(a), byte(b)}))
			for _, c := range ends {
				decodes(t, string([]byte{byte(a), byte(b), c}))
				if a >= 0xe0 {
					for _, d := range ends {
						decodes(t, string([]byte{byte(a), byte(b), c, d}))
					}
				}
			}
		}
	}
}

func TestMixedBytes(t *testing.T) { // P2.2
	d := dice(3)
	words := []string{"a", "\u00e4", "\u20ac", "\ufffd", "\U00010000", "b", "c", "d"}
	for _, c := range wrongs {
		words = append(words, c.s[c.at:])
	}
	for range 20000 {
		decodes(t, d.made(words[:8])+d.made(words))
	}
}

func TestThereAndBack(t *testing.T) { // P2.6
	for _, s := range texts(5000) {
		l, _, e := Decode(s)
		if again, f := Encode(l); again != s || e != api.OK || f != api.OK {
			t.Fatalf("Encode of Decode of %q: %q, %d, %d", s, again, e, f)
		}
		for _, attribute := range []bool{false, true} {
			x, e := Escape(s, attribute)
			if again, _, f := Unescape(x); again != s || e != api.OK || f != api.OK {
				t.Fatalf("Unescape of Escape of %q: %q, %d, %d", s, again, e, f)
			}
		}
	}
	for c := range numbers {
		l := []int32{c, 'a', c}
		s, e := Encode(l)
		if again, _, f := Decode(s); e == api.OK && (f != api.OK || !slices.Equal(again, l)) {
			t.Fatalf("Decode of Encode of %v: %v, %d", l, again, f)
		}
	}
}

func TestEscapeAgrees(t *testing.T) { // P2.3
	for c := range numbers {
		if !isChar(c) {
			continue
		}
		content, attribute := bytesOf(c), bytesOf(c)
		switch c {
		case '<', '>', '&', 13:
			content = map[int32]string{'<': "&lt;", '>': "&gt;", '&': "&amp;", 13: "&#13;"}[c]
			attribute = content
		case '"', 9, 10:
			attribute = map[int32]string{'"': "&quot;", 9: "&#9;", 10: "&#10;"}[c]
		}
		x, e := Escape(bytesOf(c), false)
		y, f := Escape(bytesOf(c), true)
		if x != content || y != attribute || e != api.OK || f != api.OK {
			t.Fatalf("Escape of %d: %q, %q, %d, %d", c, x, y, e, f)
		}
	}
}

func TestUnescapeNumbers(t *testing.T) { // P2.4
	l := bounds()
	for c := int32(0); c < 1114200; c += 97 {
		l = append(l, c)
	}
	for _, c := range l {
		if c < 0 {
			continue
		}
		hex := strconv.FormatInt(int64(c), 16)
		for _, s := range []string{
			"&#" + strconv.Itoa(int(c)) + ";", "&#000" + strconv.Itoa(int(c)) + ";",
			"&#x" + hex + ";", "&#x" + strings.ToUpper(hex) + ";", "&#x" + strings.Repeat("0", 20-len(hex)) + hex + ";",
		} {
			got, at, e := Unescape("<" + s)
			if isChar(c) && (got != "<"+bytesOf(c) || at != 0 || e != api.OK) || !isChar(c) && (got != "" || at != 1 || e != api.ErrForm) {
				t.Fatalf("Unescape(%q): %q, %d, %d", s, got, at, e)
			}
		}
	}
}

// squeezed is written apart from the program: character by character.
func squeezed(s string, mode int) string {
	var b strings.Builder
	waits := false
	for _, c := range s {
		switch {
		case mode == 0 || !isBlank(c):
			if waits && b.Len() > 0 {
				b.WriteByte(' ')
			}
			waits = false
			b.WriteString(bytesOf(c))
		case mode == 1:
			b.WriteByte(' ')
		default:
			waits = true
		}
	}
	return b.String()
}

func TestSqueezeAgrees(t *testing.T) { // P2.5, P2.6
	for _, s := range texts(5000) {
		for mode := range 3 {
			x, e := Squeeze(s, mode)
			if x != squeezed(s, mode) || e != api.OK {
				t.Fatalf("Squeeze(%q, %d): %q, %d", s, mode, x, e)
			}
			if again, e := Squeeze(x, mode); again != x || e != api.OK {
				t.Fatalf("Squeeze(%q, %d) again: %q, %d", s, mode, again, e)
			}
		}
		one, _ := Squeeze(s, 1)
		two, _ := Squeeze(s, 2)
		if both, e := Squeeze(one, 2); both != two || e != api.OK {
			t.Fatalf("Squeeze(%q): %q, not %q", s, both, two)
		}
	}
}

func TestArgumentsStay(t *testing.T) { // R3
	for _, l := range [][]int32{{97, 228, 13}, {97, 0, 98}} {
		kept := slices.Clone(l)
		if Encode(l); !slices.Equal(l, kept) {
			t.Errorf("%v has become %v", kept, l)
		}
	}
}

func TestResultsAreNew(t *testing.T) { // R3
	a, _, _ := Decode("abc")
	b, _, _ := Decode("abc")
	a[0] = 'x'
	if c, _, _ := Decode("abc"); b[0] != 'a' || c[0] != 'a' {
		t.Error("results of Decode share memory")
	}
	l := []int32{'a', 'b'}
	s, _ := Encode(l)
	l[0] = 'x'
	if s != "ab" {
		t.Error("Encode keeps its argument")
	}
}

func TestEmptyIsNil(t *testing.T) { // R4
	x, e := Encode(nil)
	y, f := Encode([]int32{})
	if x != "" || y != "" || e != api.OK || f != api.OK {
		t.Errorf("Encode of nothing: %q, %d, %q, %d", x, e, y, f)
	}
}

func TestNothingPanics(t *testing.T) { // R1
	l := []string{"", "&", "&#", "&#x", "&;", "\xff", "\xf4", "\xf4\x8f\xbf", strings.Repeat("\xf0", 70000), strings.Repeat("&", 70000), strings.Repeat("&#x", 70000), strings.Repeat("a ", 70000), "&#" + strings.Repeat("9", 70000) + ";"}
	for _, s := range l {
		Decode(s)
		Local(s)
		Escape(s, false)
		Escape(s, true)
		Unescape(s)
		for mode := -1; mode < 4; mode++ {
			Squeeze(s, mode)
		}
	}
	Encode(make([]int32, 70000))
}

func TestAgainTheSame(t *testing.T) { // R6
	for _, s := range texts(200) {
		x, _ := Escape(s, true)
		y, at, e := Unescape(s)
		for range 5 {
			again, _ := Escape(s, true)
			if z, place, f := Unescape(s); again != x || z != y || place != at || f != e {
				t.Fatalf("%q: %q, %q, %d, %d", s, again, z, place, f)
			}
		}
	}
}
