package chars

import (
	"math"
	"strings"
)

// isChar, isFirst, isInner, bytesOf and reading are written apart from the program, straight from the definitions of the chapter.
func isChar(c int32) bool {
	return c == 9 || c == 10 || c == 13 || 32 <= c && c <= 55295 || 57344 <= c && c <= 65533 || 65536 <= c && c <= 1114111
}

func isFirst(c int32) bool {
	letter := 'a' <= c && c <= 'z' || 'A' <= c && c <= 'Z'
	return letter || c == '_' || isChar(c) && c >= 192 && c != 215 && c != 247
}

func isInner(c int32) bool {
	return isFirst(c) || '0' <= c && c <= '9' || c == '-' || c == '.' || c == 183
}

func isBlank(c int32) bool { return c == 9 || c == 10 || c == 13 || c == 32 }

func bytesOf(c int32) string {
	rest := func(by int32) byte { return byte(128 + c/by%64) }
	switch {
	case c < 128:
		return string([]byte{byte(c)})
	case c < 2048:
		return string([]byte{byte(192 + c/64), rest(1)})
	case c < 65536:
		return string([]byte{byte(224 + c/4096), rest(64), rest(1)})
	}
	return string([]byte{byte(240 + c/262144), rest(4096), rest(64), rest(1)})
}

// reading is what Decode is to return: the characters, and the first wrong byte or -1.
func reading(s string) ([]int32, int) {
	var l []int32
	for at := 0; at < len(s); {
		c, size := leading(s[at:])
		if size == 0 || !isChar(c) || !strings.HasPrefix(s[at:], bytesOf(c)) {
			return nil, at
		}
		l = append(l, c)
		at += size
	}
	return l, -1
}

// leading computes the number that bytes stand for if they are those of a character at all.
func leading(s string) (int32, int) {
	size, c := 1, int32(s[0])
	switch {
	case s[0] >= 240:
		size, c = 4, c-240
	case s[0] >= 224:
		size, c = 3, c-224
	case s[0] >= 192:
		size, c = 2, c-192
	}
	if len(s) < size {
		return 0, 0
	}
	for i := 1; i < size; i++ {
		c = c*64 + int32(s[i]) - 128
	}
	return c, size
}

// numbers goes through all numbers that may be characters, and some that are far from them.
func numbers(yield func(int32) bool) {
	for c := int32(-300); c < 1114500; c++ {
		if !yield(c) {
			return
		}
	}
	for _, c := range []int32{math.MinInt32, math.MinInt32 + 97, -97 - 1<<20, 1<<21 + 97, 1<<30 + 97, math.MaxInt32} {
		if !yield(c) {
			return
		}
	}
}

// bounds are the numbers around the ends of all ranges that the chapter names.
func bounds() []int32 {
	var l []int32
	for _, c := range []int32{0, 9, 10, 13, 32, '-', '.', '0', '9', 'A', 'Z', '_', 'a', 'z', 127, 128, 133, 160, 183, 192, 215, 247, 2047, 2048, 8232, 55295, 57344, 65279, 65533, 65536, 1114111} {
		l = append(l, c-1, c, c+1)
	}
	return l
}

// dice is a repeatable source of numbers.
type dice uint32

func (d *dice) below(n int) int {
	*d = *d*1664525 + 1013904223
	return int(*d>>8) % n
}

// made puts words together.
func (d *dice) made(words []string) string {
	var b strings.Builder
	for range d.below(12) {
		b.WriteString(words[d.below(len(words))])
	}
	return b.String()
}

// texts are made of characters of all sorts, among them blanks, those with escapes, and escapes.
func texts(n int) []string {
	words := []string{" ", " ", "\t", "\n", "\r", "<", ">", "&", "\"", "'", "a", "b", ";", "&lt;", "&#13;", "\u00a0", "\u0085", "\u2003", "\u00e4", "\ud7ff", "\ufffd", "\U00010000", "\U0010ffff"}
	d := dice(2)
	l := []string{"", " ", "\r\n"}
	for len(l) < n {
		l = append(l, d.made(words))
	}
	return l
}

// wrongs are no texts, with the first byte at which no bytes of a character stand.
var wrongs = []struct {
	s  string
	at int
}{
	{"\x00", 0},
	{"ab\x00", 2},
	{"\x08", 0},
	{"a\x0b", 1},
	{"a\x0c", 1},
	{"\x0e", 0},
	{"a\x1fb", 1},
	{"\x80", 0},
	{"a\xbf", 1},
	{"a\xc0\x80", 1},         // two bytes for 0
	{"\xc1\xbf", 0},          // two bytes for 127
	{"\xe0\x80\x80", 0},      // three bytes for 0
	{"\xe0\x9f\xbf", 0},      // three bytes for 2047
	{"\xf0\x80\x80\x80", 0},  // four bytes for 0
	{"\xf0\x8f\xbf\xbf", 0},  // four bytes for 65535
	{"\xed\xa0\x80", 0},      // 55296
	{"\xed\xbf\xbf", 0},      // 57343
	{"\xef\xbf\xbe", 0},      // 65534
	{"\xef\xbf\xbf", 0},      // 65535
	{"\xf4\x90\x80\x80", 0},  // 1114112
	{"\xf5\x80\x80\x80", 0},  // no first byte
	{"\xfe", 0},              // no first byte
	{"\xff", 0},              // no first byte
	{"a\xc3", 1},             // ends too early
	{"\xe2\x82", 0},          // ends too early
	{"ab\xe2", 2},            // ends too early
	{"\xf0\x9f\x98", 0},      // ends too early
	{"\xc3a", 0},             // another character begins too early
	{"\xe2\x82a", 0},         // another character begins too early
	{"\xc3\xa4\xc3\xc3", 2},  // another character begins too early
	{"\xf0\x9f\x98\xc3", 0},  // another character begins too early
	{"\xc3\xa4\xa4", 2},      // one byte too much
	{"\xef\xbf\xbd\xbd", 3},  // one byte too much
	{"\xef\xbf\xbd\x00", 3},  // behind the character 65533
	{"a\xff\xff\x00", 1},     // the first one counts
	{"\xe2\x82\xac\xe2a", 3}, // the first byte of the character, not the wrong one in it
}
