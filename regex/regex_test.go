package regex_test

import (
	"math"
	"slices"
	"strings"
	"testing"

	"gabarit/api"
	"gabarit/chars"
	"gabarit/regex"
)

// wrongSets are lists of ranges that are no sets.
func wrongSets() [][]api.Range {
	return [][]api.Range{
		ranges('b', 'a'),
		ranges('a', 'b', 'c', 'd'), // they touch
		ranges('a', 'c', 'c', 'd'),
		ranges('a', 'd', 'b', 'c'),
		ranges('a', 'a', 'a', 'a'),
		ranges('c', 'd', 'a', 'a'), // out of order
		ranges('a', 'a', 'e', 'e', 'c', 'c'),
		ranges('a', 'b', 'd', 'c'),
		ranges(0, 0),
		ranges(8, 9),
		ranges(9, 11),
		ranges(10, 13),
		ranges(9, 10, 11, 11),
		ranges(9, 9, 10, 10),
		ranges(9, 13),
		ranges(12, 12),
		ranges(13, 14),
		ranges(13, 32),
		ranges(31, 32),
		ranges(55295, 55296),
		ranges(55295, 57344), // over a gap
		ranges(32, 65533),
		ranges(57343, 57344),
		ranges(55296, 57343),
		ranges(65533, 65534),
		ranges(65535, 65536),
		ranges(65533, 65536),
		ranges(9, 1114111),
		ranges(1114111, 1114112),
		ranges(-1, -1),
		ranges(-1, 9),
		ranges('a', math.MaxInt32),
		ranges(math.MaxInt32, math.MaxInt32),
		ranges(math.MinInt32, math.MinInt32),
		ranges(math.MinInt32, math.MaxInt32),
		ranges('a', 'a', math.MinInt32, math.MaxInt32),
		ranges(math.MaxInt32, math.MaxInt32, math.MinInt32, math.MinInt32),
	}
}

// rightSets are sets, up to the ends of what is one.
func rightSets() [][]api.Range {
	return [][]api.Range{
		ranges('a', 'a'),
		ranges('a', 'b', 'd', 'd', 'f', 'g'),
		ranges(9, 10, 13, 13, 32, 32),
		ranges(9, 10, 13, 13, 32, 55295, 57344, 65533, 65536, 1114111),
		ranges(9, 9, 13, 13),
		ranges(55295, 55295, 57344, 57344),
		ranges(65533, 65533, 65536, 65536),
		ranges(1114111, 1114111),
		gaps(200),
	}
}

// wrongs are small, but not valid.
func wrongs() []api.Regex {
	a := char('a')
	l := []api.Regex{
		{},
		{Kind: 6},
		{Kind: -1},
		{Kind: math.MaxInt},
		{Kind: 6, Args: []api.Regex{a}, Low: 1, High: 1},
		{Kind: api.RxEmpty, Set: ranges('a', 'a')},
		{Kind: api.RxEmpty, Args: []api.Regex{a}},
		{Kind: api.RxEmpty, Args: []api.Regex{a, a}},
		{Kind: api.RxEmpty, Low: 1},
		{Kind: api.RxEmpty, High: 1},
		{Kind: api.RxEmpty, High: -1},
		{Kind: api.RxSet, Set: ranges('a', 'a'), Args: []api.Regex{a}},
		{Kind: api.RxSet, Set: ranges('a', 'a'), Low: 1},
		{Kind: api.RxSet, Set: ranges('a', 'a'), High: 1},
		{Kind: api.RxSet, Set: ranges('a', 'a'), High: -1},
		{Kind: api.RxSeq, Args: []api.Regex{a, a}, Set: ranges('a', 'a')},
		{Kind: api.RxSeq, Args: []api.Regex{a, a}, Low: 1},
		{Kind: api.RxSeq, Args: []api.Regex{a, a}, High: 2},
		{Kind: api.RxAlt, Args: []api.Regex{a, a}, Set: ranges('a', 'a')},
		{Kind: api.RxAlt, Args: []api.Regex{a, a}, Low: -1},
		{Kind: api.RxAlt, Args: []api.Regex{a, a}, High: 1},
		{Kind: api.RxTimes, Args: []api.Regex{a}, High: 1, Set: ranges('a', 'a')},
		set(),
		seq(),
		seq(a),
		alt(),
		alt(a),
		times(0, 1),
		times(0, 1, a, a),
		times(-1, 1, a),
		times(-1, -1, a),
		times(51, 51, a),
		times(51, -1, a),
		times(50, 51, a),
		times(50, 49, a),
		times(2, 1, a),
		times(1, 0, a),
		times(0, 0, a),
		times(0, -2, a),
		times(1, -2, a),
		times(0, 51, a),
		times(math.MinInt, -1, a),
		times(0, math.MaxInt, a),
		times(math.MaxInt, math.MinInt, a),
	}
	for _, wrong := range wrongSets() {
		l = append(l, set(wrong...))
	}
	for _, x := range slices.Clone(l) {
		l = append(l, seq(a, x), alt(x, a), times(0, -1, x), tower(20, times(1, 1, a, x))) // the last one is too deep
	}
	return slices.DeleteFunc(l, func(x api.Regex) bool { return modelCheck(x) == api.ErrLong })
}

// tooLarge are not small, whether they are valid or not.
func tooLarge() []api.Regex {
	a := char('a')
	cyclic := seq(a, a)
	cyclic.Args[1] = cyclic
	wide := alt(a, a)
	for range 60 {
		wide = alt(wide, wide)
	}
	return []api.Regex{
		seq(repeated(200, a)...),
		alt(repeated(200, empty())...),
		alt(seq(repeated(99, a)...), seq(repeated(100, a)...)),
		tower(21, a),
		tower(21, empty()),
		seq(a, tower(20, a)),
		set(gaps(201)...),
		times(0, 1, set(gaps(201)...)),
		seq(make([]api.Regex, 200)...),
		{Args: make([]api.Regex, 200)},
		{Kind: api.RxEmpty, Args: repeated(200, a)},
		{Kind: api.RxSet, Set: ranges('a', 'a'), Args: repeated(200, a)},
		times(0, 0, repeated(200, a)...),
		tower(21, api.Regex{}),
		{Kind: api.RxEmpty, Set: make([]api.Range, 201)},
		{Kind: api.RxSet, Set: make([]api.Range, 201)},
		{Kind: api.RxSeq, Args: []api.Regex{{}, {Set: make([]api.Range, 201)}}},
		cyclic,
		wide,
	}
}

// rights are valid and small, up to the limits.
func rights() []api.Regex {
	a := char('a')
	l := []api.Regex{
		empty(),
		{Kind: api.RxEmpty, Set: []api.Range{}, Args: []api.Regex{}},
		seq(a, empty()),
		alt(empty(), empty()),
		times(0, 1, a),
		times(0, -1, a),
		times(0, 50, a),
		times(1, 1, a),
		times(50, 50, a),
		times(50, -1, a),
		times(49, 50, empty()),
		seq(repeated(199, a)...),
		alt(repeated(199, set(gaps(200)...))...),
		alt(seq(repeated(99, a)...), seq(repeated(98, a)...)),
		tower(20, a),
		tower(20, empty()),
		seq(a, tower(19, a)),
	}
	for _, right := range rightSets() {
		l = append(l, set(right...))
	}
	return l
}

func TestCheck(t *testing.T) { // P7.1
	for _, x := range rights() {
		if e := regex.Check(x); e != api.OK {
			t.Errorf("Check(%v): %d", x, e)
		}
	}
	for _, x := range wrongs() {
		if e := regex.Check(x); e != api.ErrArg {
			t.Errorf("Check(%v): %d", x, e)
		}
	}
	for i, x := range tooLarge() {
		if e := regex.Check(x); e != api.ErrLong {
			t.Errorf("Check of %d: %d", i, e)
		}
	}
	for size, want := range map[int]api.Errno{200: api.ErrArg, 201: api.ErrLong} {
		for _, x := range []api.Regex{{Kind: api.RxEmpty, Set: gaps(size)}, {Set: make([]api.Range, size)}, {Args: make([]api.Regex, size-1)}} {
			if e := regex.Check(x); e != want {
				t.Errorf("Check of what is wrong and has %d: %d", size, e)
			}
		}
	}
}

// expressions are texts and what they mean.
var expressions = map[string]api.Regex{
	"":                      empty(),
	"()":                    empty(),
	"(())":                  empty(),
	"a":                     char('a'),
	"(a)":                   char('a'),
	"((a))":                 char('a'),
	"ab":                    seq(char('a'), char('b')),
	"(ab)":                  seq(char('a'), char('b')),
	"a(bc)":                 seq(char('a'), seq(char('b'), char('c'))),
	"a()":                   seq(char('a'), empty()),
	"()()":                  seq(empty(), empty()),
	"a|b":                   alt(char('a'), char('b')),
	"a|":                    alt(char('a'), empty()),
	"|a":                    alt(empty(), char('a')),
	"|":                     alt(empty(), empty()),
	"||":                    alt(empty(), empty(), empty()),
	"a||b":                  alt(char('a'), empty(), char('b')),
	"a|(b|c)":               alt(char('a'), alt(char('b'), char('c'))),
	"ab|c":                  alt(seq(char('a'), char('b')), char('c')),
	"a(|b)":                 seq(char('a'), alt(empty(), char('b'))),
	"a?":                    times(0, 1, char('a')),
	"a*":                    times(0, -1, char('a')),
	"a+":                    times(1, -1, char('a')),
	"a{3}":                  times(3, 3, char('a')),
	"a{1}":                  times(1, 1, char('a')),
	"a{10}":                 times(10, 10, char('a')),
	"a{50}":                 times(50, 50, char('a')),
	"a{0,1}":                times(0, 1, char('a')),
	"a{0,}":                 times(0, -1, char('a')),
	"a{1,}":                 times(1, -1, char('a')),
	"a{0,50}":               times(0, 50, char('a')),
	"a{50,}":                times(50, -1, char('a')),
	"a{50,50}":              times(50, 50, char('a')),
	"a{9,10}":               times(9, 10, char('a')),
	"ab*":                   seq(char('a'), times(0, -1, char('b'))),
	"(ab)*":                 times(0, -1, seq(char('a'), char('b'))),
	"(a*)*":                 times(0, -1, times(0, -1, char('a'))),
	"()*":                   times(0, -1, empty()),
	"(a|b)?":                times(0, 1, alt(char('a'), char('b'))),
	"a|b*":                  alt(char('a'), times(0, -1, char('b'))),
	" ":                     char(' '),
	"\n\t\r":                seq(char(10), char(9), char(13)),
	"a b":                   seq(char('a'), char(' '), char('b')),
	"-^,":                   seq(char('-'), char('^'), char(',')),
	"^a$":                   seq(char('^'), char('a'), char('$')),
	"1,2":                   seq(char('1'), char(','), char('2')),
	"/<>&\"'":               seq(char('/'), char('<'), char('>'), char('&'), char('"'), char('\'')),
	"\u00e4":                char(228),
	"\u20ac*":               times(0, -1, char(8364)),
	"\ufffd":                char(65533),
	"\U0010ffff":            char(1114111),
	"\ud7ff\ue000":          seq(char(55295), char(57344)),
	".":                     set(ranges(9, 9, 32, 55295, 57344, 65533, 65536, 1114111)...),
	`\d`:                    set(ranges('0', '9')...),
	`\s`:                    set(ranges(9, 10, 13, 13, 32, 32)...),
	`\w`:                    set(ranges('0', '9', 'A', 'Z', '_', '_', 'a', 'z')...),
	`\D`:                    set(ranges(9, 10, 13, 13, 32, 47, 58, 55295, 57344, 65533, 65536, 1114111)...),
	`\S`:                    set(ranges(33, 55295, 57344, 65533, 65536, 1114111)...),
	`\W`:                    set(ranges(9, 10, 13, 13, 32, 47, 58, 64, 91, 94, 96, 96, 123, 55295, 57344, 65533, 65536, 1114111)...),
	`\n`:                    char(10),
	`\r`:                    char(13),
	`\t`:                    char(9),
	`\.`:                    char('.'),
	`\\`:                    char('\\'),
	`\?`:                    char('?'),
	`\*`:                    char('*'),
	`\+`:                    char('+'),
	`\{`:                    char('{'),
	`\}`:                    char('}'),
	`\(`:                    char('('),
	`\)`:                    char(')'),
	`\[`:                    char('['),
	`\]`:                    char(']'),
	`\|`:                    char('|'),
	`\-`:                    char('-'),
	`\^`:                    char('^'),
	`\d+`:                   times(1, -1, set(ranges('0', '9')...)),
	"[a]":                   char('a'),
	"[ba]":                  set(ranges('a', 'b')...),
	"[aa]":                  char('a'),
	"[a-a]":                 char('a'),
	"[a-c]":                 set(ranges('a', 'c')...),
	"[a-cb-d]":              set(ranges('a', 'd')...),
	"[a-ce-f]":              set(ranges('a', 'c', 'e', 'f')...),
	"[a-cd-f]":              set(ranges('a', 'f')...),
	"[d-fa-c]":              set(ranges('a', 'f')...),
	"[a-zc]":                set(ranges('a', 'z')...),
	"[.]":                   char('.'),
	"[?*+{}()|]":            set(ranges('(', '+', '?', '?', '{', '}')...),
	"[ \t\n]":               set(ranges(9, 10, 32, 32)...),
	"[1,2]":                 set(ranges(',', ',', '1', '2')...),
	`[\d]`:                  set(ranges('0', '9')...),
	`[\da]`:                 set(ranges('0', '9', 'a', 'a')...),
	`[a\d]`:                 set(ranges('0', '9', 'a', 'a')...),
	`[\d\s\w]`:              set(ranges(9, 10, 13, 13, 32, 32, '0', '9', 'A', 'Z', '_', '_', 'a', 'z')...),
	`[\s\S]`:                set(ranges(9, 10, 13, 13, 32, 55295, 57344, 65533, 65536, 1114111)...),
	`[\W\w]`:                set(ranges(9, 10, 13, 13, 32, 55295, 57344, 65533, 65536, 1114111)...),
	`[\D]`:                  set(ranges(9, 10, 13, 13, 32, 47, 58, 55295, 57344, 65533, 65536, 1114111)...),
	`[\[-\]]`:               set(ranges('[', ']')...),
	`[\^\-]`:                set(ranges('-', '-', '^', '^')...),
	`[a\-z]`:                set(ranges('-', '-', 'a', 'a', 'z', 'z')...),
	`[\--a]`:                set(ranges('-', 'a')...),
	`[\t-\r]`:               set(ranges(9, 10, 13, 13)...),
	`[\n-\r]`:               set(ranges(10, 10, 13, 13)...),
	`[\r- ]`:                set(ranges(13, 13, 32, 32)...),
	"[\t-\U0010ffff]":       set(ranges(9, 10, 13, 13, 32, 55295, 57344, 65533, 65536, 1114111)...),
	"[\ud7ff-\ue000]":       set(ranges(55295, 55295, 57344, 57344)...),
	"[\ufffd-\U00010000]":   set(ranges(65533, 65533, 65536, 65536)...),
	"[\u00e4-\u00f6\u20ac]": set(ranges(228, 246, 8364, 8364)...),
	"[^a]":                  set(ranges(9, 10, 13, 13, 32, 96, 98, 55295, 57344, 65533, 65536, 1114111)...),
	`[^\n\r]`:               set(ranges(9, 9, 32, 55295, 57344, 65533, 65536, 1114111)...),
	`[^\S]`:                 set(ranges(9, 10, 13, 13, 32, 32)...),
	`[^\D]`:                 set(ranges('0', '9')...),
	`[^\D5]`:                set(ranges('0', '4', '6', '9')...),
	"[a-z-[aeiou]]":         set(ranges('b', 'd', 'f', 'h', 'j', 'n', 'p', 't', 'v', 'z')...),
	"[ab-[b]]":              char('a'),
	"[a-c-[x]]":             set(ranges('a', 'c')...),
	"[a-e-[b-d-[c]]]":       set(ranges('a', 'a', 'c', 'c', 'e', 'e')...),
	"[a-e-[^b]]":            char('b'),
	"[^a-[^b]]":             char('b'),
	`[^\d-[\w]]`:            set(ranges(9, 10, 13, 13, 32, 47, 58, 64, 91, 94, 96, 96, 123, 55295, 57344, 65533, 65536, 1114111)...),
	`[\w-[\d_]]`:            set(ranges('A', 'Z', 'a', 'z')...),
	`[\d-[5]]`:              set(ranges('0', '4', '6', '9')...),
	"[a]{2}":                times(2, 2, char('a')),
	"[a][b]":                seq(char('a'), char('b')),
	"[a]-[b]":               seq(char('a'), char('-'), char('b')),
}

func TestParse(t *testing.T) { // P7.2
	for s, want := range expressions {
		if x, at, e := regex.Parse(s); !same(x, want) || at != 0 || e != api.OK {
			t.Errorf("Parse(%q): %v, %d, %d", s, x, at, e)
		}
	}
}

// wrongTexts are texts and the bytes at which they are wrong.
var wrongTexts = map[string]int{
	// counts
	"*": 0, "?a": 0, "+": 0, "{2}": 0, "a|*": 2, "(*)": 1, "a**": 2, "a+?": 2, "a?{2}": 2, "a{2}{3}": 4, "a{2}*": 4, "(a)*+": 4,
	"a{}": 2, "a{,2}": 2, "a{x}": 2, "a{-1}": 2, "a{ 1}": 2, "a{2;3}": 3, "a{2 }": 3, "a{2,x}": 4, "a{2,,}": 4, "a{2, 3}": 4, "a{2,3,}": 5,
	"a{05}": 3, "a{00}": 3, "a{2,05}": 5, "a{2,00}": 5, "a{100}": 4, "a{2,100}": 6, "a{012}": 3, "a{\u0662}": 2,
	"a{2,1}": 5, "a{10,9}": 6, "a{51}": 4, "a{51,}": 5, "a{51,52}": 7, "a{0}": 3, "a{0,0}": 5, "a{1,0}": 5, "a{2,51}": 6, "a{99,98}": 7, "a{50,49}": 7,
	"a{0}b": 3, "a{2,1}b": 5, "a{51x": 4, "a{2,1x": 5,
	"a{": 2, "a{2": 3, "a{22": 4, "a{2,": 4, "a{2,3": 5, "a{2,33": 6, "a{51": 4, "a{0": 3, "a{2,1": 5,
	// signs
	"}": 0, "a}": 1, "]": 0, "a]": 1, "(])": 1, "a|}": 2,
	// parentheses
	")": 0, "a)": 1, "())": 2, "(a))": 3, "a|)": 2, ")(": 0, "(": 1, "(a": 2, "((a)": 4, "(|": 2, "a(b(c|d)": 8, "(a]": 2,
	// escapes
	"\\": 1, "a\\": 2, "\\a": 1, "\\q": 1, "\\N": 1, "\\ ": 1, "\\,": 1, "\\/": 1, "\\\"": 1, "\\\n": 1, "\\1": 1, "\\u0041": 1, "\\\u00e4": 1, "\\\\\\": 3,
	// sets
	"[": 1, "[]": 1, "[^": 2, "[^]": 2, "[]a]": 1, "[^]a]": 2, "[a": 2, "[ab": 3, "[a-": 3, "[a-b": 4, "[^a-": 4, "[^a-b": 5, "[[]": 1, "[a[]": 2, "[^^]": 2, "[a^]": 2, "[a-^]": 3, "[^a^]": 3,
	"[-]": 1, "[-a]": 1, "[^-a]": 2, "[a-]": 3, "[^x-]": 4, "[a-c-]": 5, "[a--]": 3, "[a--b]": 3, "[--a]": 1, "[a-c-e]": 5, "[a-c--]": 5,
	"[\\d-x]": 4, "[\\d-]": 4, "[\\d-\\w]": 4, "[a-\\d]": 4, "[a-\\S]": 4, "[a-\\q]": 4, "[\\q]": 2, "[\\": 2, "[a\\": 3, "[a-\\": 4, "[\\d-\\": 4, "[a-c-\\": 5,
	"[b-a]": 3, "[b-a": 3, "[b-a-[c]]": 3, "[ab-a]": 4, "[b-\\.]": 3, "[b-\\n]": 3, "[\\]-\\[]": 4, "[\u00f6-\u00e4]": 4, "[\U00010000-\ufffd]": 6, "[a-c-[b-a]]": 8, "[b-ac-b]": 3,
	"[a-[": 4, "[a-[b": 5, "[a-[b]": 6, "[a-[b]c]": 6, "[a-[b]-[c]]": 6, "[a-[b]-c]": 6, "[a-[]]": 4, "[a-[^]]": 5, "[-[a]]": 1, "[^-[a]]": 2, "[a-[b]\\": 6,
	"[a-[a]]": 6, "[a-a-[a]]": 8, "[ab-[a-c]]": 9, "[a-[^b]]": 7, "[a-[b-[b]]]": 9, "[^\\s\\S]": 6, "[^\\d\\D]": 6, "[^\\w\\W-[a]]": 10, "[a-[^\\s\\S]]": 9, "[\\d-[\\w]]": 8, "[^\\S-[\\s]]": 9, "[a-[a]]b": 6, "[a-[a]x": 6, "[^\t-\U0010ffff]": 8,
	"[a-[a]": 6, "[^\\s\\S": 6,
	// bytes
	"\xff": 0, "a\xff": 1, "\u00e4\xff": 2, "\x00": 0, "a\x08b": 1, "\x0b": 0, "a\x1f": 1, "\xc3": 0, "a\xc3": 1, "\xe2\x82": 0, "a\xe2\x82b": 1, "\xf0\x90\x80": 0, "\xed\xa0\x80": 0, "\xed\xbf\xbf": 0, "\xef\xbf\xbe": 0, "a\xef\xbf\xbf": 1, "\xf4\x90\x80\x80": 0, "\xc0\x80": 0, "\x80": 0,
	"(\xff": 1, "a|\xff": 2, "a*\xff": 2, "\\\xff": 1, "[\xff": 1, "[a\xff": 2, "[a-\xff": 3, "[\\\xff": 2, "[a-[b]\xff": 6, "a{\xff": 2, "a{2\xff": 3, "a{2,\xff": 4, "a{2,3\xff": 5, "a{2}\xff": 4, "(a)\xff": 3, "[\xef\xbf\xbf]": 1,
	"a)\xff": 1, "\xff)": 0, "\u20ac)": 3, "\U0010ffff)": 4, "\u20ac\xff": 3, "\U0010ffff(": 5, "[\u00e4": 3,
}

func TestParseOfWrongTexts(t *testing.T) { // P7.2
	for s, want := range wrongTexts {
		if x, at, e := regex.Parse(s); !same(x, api.Regex{}) || at != want || e != api.ErrForm {
			t.Errorf("Parse(%q): %v, %d, %d", s, x, at, e)
		}
	}
}

func TestParseNearTheLimits(t *testing.T) { // P7.2
	many := func(n int, s string) string { return strings.Repeat(s, n) }
	around := func(n int) string { // so many bytes around an a
		return many((n-1)/2, "(") + "a" + many(n-1-2*((n-1)/2), "?") + many((n-1)/2, ")")
	}
	for _, c := range []struct {
		s    string
		at   int
		want api.Errno
	}{
		{many(199, "a"), 0, api.OK},
		{many(200, "a"), 0, api.ErrLong},
		{many(198, "|"), 0, api.OK},
		{many(199, "|"), 0, api.ErrLong},
		{many(198, "a") + "*", 0, api.OK},
		{many(199, "a") + "*", 0, api.ErrLong},
		{many(200, "a") + ")", 200, api.ErrForm},
		{many(19, "(") + "a" + many(19, "?)"), 0, api.OK},
		{many(20, "(") + "a" + many(20, "?)"), 0, api.ErrLong},
		{many(20, "(") + "a" + many(20, "?)") + ")", 61, api.ErrForm},
		{many(20, "(a|") + many(20, ")"), 0, api.ErrLong},
		{many(19, "(a|") + many(19, ")"), 0, api.OK},
		{"[" + setItems(200) + "]", 0, api.OK},
		{"[" + setItems(201) + "]", 0, api.ErrLong},
		{"[" + setItems(201) + "]]", len(setItems(201)) + 2, api.ErrForm},
		{"[" + setItems(9000) + "a-z]", 0, api.ErrLong},
		{"[" + setItems(9000) + "-[" + setItems(9000) + "a]]", len(setItems(9000))*2 + 5, api.ErrForm},
		{"[a" + setItems(9000) + "-[" + setItems(9000) + "]]", 0, api.OK},
		{around(59999), 0, api.OK},
		{around(60000), 0, api.OK},
		{around(60001), 0, api.ErrLong},
		{around(59999) + "(", 60000, api.ErrForm},
		{many(60000, "("), 60000, api.ErrForm},
		{many(60001, "("), 0, api.ErrLong},
		{many(60001, "\xff"), 0, api.ErrLong},
		{many(60000, "\xff"), 0, api.ErrForm},
		{many(60000, ")"), 0, api.ErrForm},
		{many(20000, "[a-"), 60000, api.ErrForm},
		{many(11999, "[ab-") + "[b]" + many(11999, "]"), 0, api.OK},
		{many(29999, "[") + "a", 1, api.ErrForm},
		{many(30000, "\u00e4"), 0, api.ErrLong},
	} {
		x, at, e := regex.Parse(c.s)
		if at != c.at || e != c.want || e != api.OK && !same(x, api.Regex{}) || e == api.OK && x.Kind == 0 {
			t.Errorf("Parse of %d bytes, %.20s: %v, %d, %d", len(c.s), c.s, x.Kind, at, e)
		}
	}
}

// setItems are so many characters that do not touch, from the last one to the first one.
func setItems(n int) string {
	var b strings.Builder
	for _, r := range slices.Backward(gaps(n)) {
		b.WriteRune(r.Low)
	}
	return b.String()
}

func TestPrint(t *testing.T) { // P7.3
	a, b, none := char('a'), char('b'), empty()
	ab := seq(a, b)
	for _, c := range []struct {
		x    api.Regex
		want string
	}{
		{none, ""},
		{a, "a"},
		{ab, "ab"},
		{alt(a, b), "a|b"},
		{alt(none, none), "|"},
		{alt(a, none, none), "a||"},
		{times(0, 1, a), "a?"},
		{times(0, -1, a), "a*"},
		{times(1, -1, a), "a+"},
		{times(1, 1, a), "a{1}"},
		{times(2, 2, a), "a{2}"},
		{times(50, 50, a), "a{50}"},
		{times(2, -1, a), "a{2,}"},
		{times(50, -1, a), "a{50,}"},
		{times(0, 2, a), "a{0,2}"},
		{times(1, 2, a), "a{1,2}"},
		{times(10, 50, a), "a{10,50}"},
		// each kind in each other
		{alt(none, a), "|a"},
		{alt(set(ranges('a', 'b')...), ab, times(0, 1, a)), "[a-b]|ab|a?"},
		{alt(alt(a, b), a), "(a|b)|a"},
		{alt(a, alt(a, b)), "a|(a|b)"},
		{seq(none, a), "()a"},
		{seq(a, none), "a()"},
		{seq(a, ab), "a(ab)"},
		{seq(ab, a), "(ab)a"},
		{seq(alt(a, b), a), "(a|b)a"},
		{seq(alt(none, none), a), "(|)a"},
		{seq(times(0, -1, a), set(ranges('a', 'b')...)), "a*[a-b]"},
		{times(0, -1, none), "()*"},
		{times(0, -1, ab), "(ab)*"},
		{times(0, -1, alt(a, b)), "(a|b)*"},
		{times(0, -1, times(0, -1, a)), "(a*)*"},
		{times(2, 3, times(1, 1, a)), "(a{1}){2,3}"},
		{times(0, -1, set(ranges('a', 'b')...)), "[a-b]*"},
		{times(0, 1, seq(alt(a, times(0, 1, seq(none, a))), b)), "((a|(()a)?)b)?"},
		// characters
		{seq(char('.'), char('\\'), char('?'), char('*'), char('+')), `\.\\\?\*\+`},
		{seq(char('{'), char('}'), char('('), char(')'), char('['), char(']'), char('|')), `\{\}\(\)\[\]\|`},
		{seq(char('-'), char('^'), char(','), char('$'), char('/'), char(' '), char('d')), "-^,$/ d"},
		{seq(char(9), char(10), char(13)), `\t\n\r`},
		{seq(char(127), char(228), char(8364), char(65533), char(1114111)), "\x7f\u00e4\u20ac\ufffd\U0010ffff"},
		// sets
		{set(ranges('a', 'b')...), "[a-b]"},
		{set(ranges('a', 'c')...), "[a-c]"},
		{set(ranges('a', 'a', 'c', 'c')...), "[ac]"},
		{set(ranges('a', 'b', 'd', 'd', 'f', 'h')...), "[a-bdf-h]"},
		{set(ranges('0', '9')...), "[0-9]"},
		{set(ranges(9, 10, 13, 13, 32, 32)...), `[\t-\n\r ]`},
		{set(ranges('[', '^')...), `[\[-\^]`},
		{set(ranges('-', '-', '[', ']')...), `[\-\[-\]]`},
		{set(ranges('\\', '\\', '^', '^')...), `[\\\^]`},
		{set(ranges('(', '+', '.', '.', '?', '?', '{', '}')...), "[(-+.?{-}]"},
		{set(ranges(',', '-', 'd', 'd', 'n', 'n')...), `[,-\-dn]`},
		{set(ranges(9, 9, 32, 55295, 57344, 65533, 65536, 1114111)...), "[\\t -\ud7ff\ue000-\ufffd\U00010000-\U0010ffff]"},
	} {
		if s, e := regex.Print(c.x); s != c.want || e != api.OK {
			t.Errorf("Print(%v): %s, %d, not %s", c.x, s, e, c.want)
		}
		if x, at, e := regex.Parse(c.want); !same(x, c.x) || at != 0 || e != api.OK { // P7.6
			t.Errorf("Parse(%s): %v, %d, %d", c.want, x, at, e)
		}
	}
	for s, x := range expressions {
		text, e := regex.Print(x)
		if y, _, f := regex.Parse(text); e != api.OK || f != api.OK || !same(x, y) { // P7.6
			t.Errorf("Print of %s: %s, %d", s, text, e)
		}
	}
	for _, x := range wrongs() {
		if s, e := regex.Print(x); s != "" || e != api.ErrArg {
			t.Errorf("Print(%v): %s, %d", x, s, e)
		}
	}
	for i, x := range tooLarge() {
		if s, e := regex.Print(x); s != "" || e != api.ErrLong {
			t.Errorf("Print of %d: %s, %d", i, s, e)
		}
	}
}

func TestPrintOfLongTexts(t *testing.T) { // P7.3, P7.6
	for n, want := range map[int]api.Errno{147: api.OK, 148: api.ErrLong} { // 406 bytes for each
		x := alt(repeated(n, set(append(gaps(199), api.Range{Low: 2000, High: 2003})...))...)
		s, e := regex.Print(x)
		if e != api.OK || s != modelPrint(x) || len(s) > api.MaxText != (want == api.ErrLong) {
			t.Errorf("Print of %d sets: %d bytes, %d", n, len(s), e)
		}
		if y, at, e := regex.Parse(s); e != want || at != 0 || e == api.OK && !same(x, y) {
			t.Errorf("Parse of %d bytes: %d, %d", len(s), at, e)
		}
	}
}

func TestMatch(t *testing.T) { // P7.4
	many := func(n int, s string) string { return strings.Repeat(s, n) }
	for _, c := range []struct {
		x       string
		yes, no []string
	}{
		{"", []string{""}, []string{"a", " ", "\n"}},
		{"()", []string{""}, []string{"a"}},
		{"a", []string{"a"}, []string{"", "b", "A", "aa", "ab", "ba"}},
		{"\u00e4", []string{"\u00e4"}, []string{"", "a", "a\u0308", "\u00c4"}},
		{".", []string{"a", "\t", " ", "\u00e4", "\u20ac", "\U0010ffff", "\u2028", "\u0085"}, []string{"", "\n", "\r", "ab"}},
		{"..", []string{"ab", "\u00e4\u20ac"}, []string{"a", "\u00e4", "abc"}},
		{`\d`, []string{"0", "5", "9"}, []string{"/", ":", "a", "\u0661", ""}},
		{`\s`, []string{" ", "\t", "\n", "\r"}, []string{"a", "\u00a0", "\u0085", "\u2028", ""}},
		{`\w`, []string{"a", "z", "A", "Z", "0", "9", "_"}, []string{"-", "\u00e4", "@", "[", "`", "{", "/", ":", ""}},
		{`\D\S\W`, []string{"aa-", "--\u00e4"}, []string{"0a-", "a -", "aaa", "aa"}},
		{"[^a]*", []string{"", "b", "bcd", "\n"}, []string{"a", "ba", "bac"}},
		{"[a-c]", []string{"a", "b", "c"}, []string{"", "`", "d", "ab"}},
		{"[a-bd-ex-z]", []string{"a", "b", "d", "e", "x", "y", "z"}, []string{"`", "c", "f", "w", "{"}},
		{"[\t-\U0010ffff]", []string{"\t", "\r", "\ud7ff", "\ue000", "\ufffd", "\U00010000"}, []string{""}},
		{"ab", []string{"ab"}, []string{"", "a", "b", "ba", "abb", "aab"}},
		{"a|bc", []string{"a", "bc"}, []string{"", "b", "c", "abc", "ac"}},
		{"a|", []string{"a", ""}, []string{"b", "aa"}},
		{"a|ab", []string{"a", "ab"}, []string{"b", "aab"}},
		{"a?", []string{"", "a"}, []string{"aa", "b"}},
		{"a*", []string{"", "a", many(1000, "a")}, []string{"b", "aab", "baa", many(999, "a") + "b"}},
		{"a+", []string{"a", many(1000, "a")}, []string{"", "b", "ab"}},
		{"a{2}", []string{"aa"}, []string{"", "a", "aaa"}},
		{"a{2,}", []string{"aa", "aaa", many(1000, "a")}, []string{"", "a"}},
		{"a{2,4}", []string{"aa", "aaa", "aaaa"}, []string{"", "a", "aaaaa"}},
		{"a{0,2}", []string{"", "a", "aa"}, []string{"aaa"}},
		{"a{50}", []string{many(50, "a")}, []string{many(49, "a"), many(51, "a")}},
		{"a{49,50}", []string{many(49, "a"), many(50, "a")}, []string{many(48, "a"), many(51, "a")}},
		{"a{50,}", []string{many(50, "a"), many(1000, "a")}, []string{many(49, "a")}},
		{"a*b", []string{"b", "aab"}, []string{"", "a", "aba"}},
		{"(ab)*", []string{"", "ab", "abab"}, []string{"a", "aba", "ba"}},
		{"(ab?){2}", []string{"aa", "aba", "aab", "abab"}, []string{"", "a", "ab", "abb", "ababa"}},
		{"(a|b)*b", []string{"b", "ab", "bbab"}, []string{"", "a", "ba"}},
		// words that can be divided in many ways
		{"(a{2}){2,3}", []string{"aaaa", "aaaaaa"}, []string{"aa", "aaaaa", "aaaaaaaa"}},
		{"(a{2}|a{3}){2}", []string{"aaaa", "aaaaa", "aaaaaa"}, []string{"aaa", "aaaaaaa"}},
		{"(a{3}|a{5})*", []string{"", many(3, "a"), many(8, "a"), many(11, "a")}, []string{"a", "aa", "aaaa", many(7, "a")}},
		{"(a{7}|a{11}){4,6}", []string{many(28, "a"), many(32, "a"), many(35, "a"), many(42, "a"), many(66, "a")}, []string{many(29, "a"), many(27, "a"), many(65, "a"), many(67, "a"), many(41, "a")}},
		{"(a|ab)(c|bcd)(d*)", []string{"abcd", "ac", "abc", "acdd", "abcddd"}, []string{"ab", "abcdbc"}},
		{"(a|b|ab)*c", []string{many(200, "ab") + "c", "c"}, []string{many(200, "ab"), many(499, "ab") + "cc"}},
		{"(a*)(ab)*(b*)", []string{"", "ab", "aabb", "abab", "aababb"}, []string{"ba", "aba", "abba"}},
		{"(a+)+", []string{"a", many(1000, "a")}, []string{"", many(999, "a") + "b"}},
		{"(.*){50}", []string{"", many(1000, "x")}, []string{many(999, "x") + "\n"}},
		{"((a?){50}){2}", []string{"", many(100, "a")}, []string{many(101, "a")}},
		{"((a{1,2}){1,3}){1,2}", []string{"a", many(12, "a")}, []string{"", many(13, "a")}},
		{many(17, "(") + "a?" + many(17, "){50}"), []string{"", many(1000, "a")}, []string{many(999, "a") + "b"}},
		{many(9, "(") + "a" + many(9, "){2}"), []string{many(512, "a")}, []string{"", many(511, "a"), many(513, "a"), many(1000, "a")}},
		{many(18, "(") + "a" + many(18, "){2}"), nil, []string{"", many(1000, "a")}},
		// from 0 times on, of what has the empty word
		{"()*", []string{""}, []string{"a"}},
		{"()+", []string{""}, []string{"a"}},
		{"(){50}", []string{""}, []string{"a"}},
		{"(a*)*", []string{"", many(1000, "a")}, []string{"b"}},
		{"((a*)*)*", []string{"", many(1000, "a")}, []string{many(900, "a") + "b"}},
		{"(a?b?)*", []string{"", "ba", "bbaab"}, []string{"c", "abc"}},
		{"(|a)+", []string{"", "aa"}, []string{"b"}},
		{"(|a){2}", []string{"", "a", "aa"}, []string{"aaa"}},
		{"(|a){2,3}b", []string{"b", "ab", "aab", "aaab"}, []string{"aaaab", "a"}},
		{"(|aa){3}", []string{"", "aa", "aaaa", "aaaaaa"}, []string{"a", "aaa", "aaaaa", "aaaaaaa"}},
		{"(a?){50}", []string{"", many(50, "a")}, []string{many(51, "a")}},
		{"(a?){2,}", []string{"", many(1000, "a")}, []string{"b"}},
	} {
		x, _, e := regex.Parse(c.x)
		if e != api.OK {
			t.Errorf("Parse(%s): %d", c.x, e)
		}
		for _, s := range c.yes {
			if is, e := regex.Match(x, s); !is || e != api.OK {
				t.Errorf("Match(%s, %.30q): %v, %d", c.x, s, is, e)
			}
		}
		for _, s := range c.no {
			if is, e := regex.Match(x, s); is || e != api.OK {
				t.Errorf("Match(%s, %.30q): %v, %d", c.x, s, is, e)
			}
		}
	}
}

func TestMatchErrors(t *testing.T) { // P7.4
	all := times(0, -1, set(ranges(9, 10, 13, 13, 32, 55295, 57344, 65533, 65536, 1114111)...))
	noText := strings.Repeat("a", 1001) + "\xff"
	for _, c := range []struct {
		s  string
		is bool
		e  api.Errno
	}{
		{strings.Repeat("a", 1000), true, api.OK},
		{strings.Repeat("a", 1001), false, api.ErrLong},
		{strings.Repeat("\u00e4", 500), true, api.OK},
		{strings.Repeat("\u00e4", 501), false, api.ErrLong}, // 1002 bytes
		{strings.Repeat("\U0010ffff", 250), true, api.OK},
		{strings.Repeat("\U0010ffff", 250) + "a", false, api.ErrLong},
		{strings.Repeat("a", 70000), false, api.ErrLong},
		{"\xff", false, api.ErrForm},
		{"a\xc3", false, api.ErrForm},
		{"a\x00", false, api.ErrForm},
		{"\uffff", false, api.ErrForm},
		{noText, false, api.ErrForm},
		{strings.Repeat("\xff", 70000), false, api.ErrForm},
	} {
		if is, e := regex.Match(all, c.s); is != c.is || e != c.e {
			t.Errorf("Match of %d bytes, %.10q: %v, %d", len(c.s), c.s, is, e)
		}
	}
	for _, s := range []string{"", "a", "\xff", noText, strings.Repeat("a", 1001)} {
		for _, x := range wrongs() {
			if is, e := regex.Match(x, s); is || e != api.ErrArg {
				t.Errorf("Match(%v, %.10q): %v, %d", x, s, is, e)
			}
		}
		for i, x := range tooLarge() {
			if is, e := regex.Match(x, s); is || e != api.ErrLong {
				t.Errorf("Match of %d, %.10q: %v, %d", i, s, is, e)
			}
		}
	}
}

func TestSets(t *testing.T) { // P7.5
	all := ranges(9, 10, 13, 13, 32, 55295, 57344, 65533, 65536, 1114111)
	for _, c := range []struct{ a, b, union, meet, minus []api.Range }{
		{nil, nil, nil, nil, nil},
		{nil, []api.Range{}, nil, nil, nil},
		{nil, ranges('a', 'b'), ranges('a', 'b'), nil, nil},
		{ranges('a', 'b'), nil, ranges('a', 'b'), nil, ranges('a', 'b')},
		{all, nil, all, nil, all},
		{nil, all, all, nil, nil},
		{all, all, all, all, nil},
		{all, ranges('a', 'a'), all, ranges('a', 'a'), ranges(9, 10, 13, 13, 32, 96, 98, 55295, 57344, 65533, 65536, 1114111)},
		{ranges('a', 'a'), all, all, ranges('a', 'a'), nil},
		{ranges('a', 'b'), ranges('c', 'd'), ranges('a', 'd'), nil, ranges('a', 'b')}, // they touch
		{ranges('c', 'd'), ranges('a', 'b'), ranges('a', 'd'), nil, ranges('c', 'd')},
		{ranges('a', 'b'), ranges('d', 'e'), ranges('a', 'b', 'd', 'e'), nil, ranges('a', 'b')},
		{ranges('a', 'c'), ranges('c', 'e'), ranges('a', 'e'), ranges('c', 'c'), ranges('a', 'b')},
		{ranges('a', 'e'), ranges('b', 'd'), ranges('a', 'e'), ranges('b', 'd'), ranges('a', 'a', 'e', 'e')},
		{ranges('b', 'd'), ranges('a', 'e'), ranges('a', 'e'), ranges('b', 'd'), nil},
		{ranges('a', 'e'), ranges('a', 'c'), ranges('a', 'e'), ranges('a', 'c'), ranges('d', 'e')},
		{ranges('a', 'e'), ranges('c', 'e'), ranges('a', 'e'), ranges('c', 'e'), ranges('a', 'b')},
		{ranges('a', 'a', 'c', 'c', 'e', 'e'), ranges('b', 'b', 'd', 'd'), ranges('a', 'e'), nil, ranges('a', 'a', 'c', 'c', 'e', 'e')},
		{ranges('a', 'f'), ranges('b', 'b', 'd', 'd'), ranges('a', 'f'), ranges('b', 'b', 'd', 'd'), ranges('a', 'a', 'c', 'c', 'e', 'f')},
		{ranges('a', 'b', 'd', 'e'), ranges('b', 'd'), ranges('a', 'e'), ranges('b', 'b', 'd', 'd'), ranges('a', 'a', 'e', 'e')},
		{ranges(9, 10), ranges(13, 13), ranges(9, 10, 13, 13), nil, ranges(9, 10)}, // across the gaps
		{ranges(13, 13), ranges(32, 40), ranges(13, 13, 32, 40), nil, ranges(13, 13)},
		{ranges(9, 9), ranges(10, 10), ranges(9, 10), nil, ranges(9, 9)},
		{ranges(100, 55295), ranges(57344, 57400), ranges(100, 55295, 57344, 57400), nil, ranges(100, 55295)},
		{ranges(65536, 65536), ranges(65533, 65533), ranges(65533, 65533, 65536, 65536), nil, ranges(65536, 65536)},
		{ranges(32, 55295, 57344, 65533), ranges(55295, 55295, 57344, 57344), ranges(32, 55295, 57344, 65533), ranges(55295, 55295, 57344, 57344), ranges(32, 55294, 57345, 65533)},
		{ranges(1114111, 1114111), ranges(1114110, 1114110), ranges(1114110, 1114111), nil, ranges(1114111, 1114111)},
		{gaps(5000), gaps(4999), gaps(5000), gaps(4999), ranges(10998, 10998)},
	} {
		if l, e := regex.Union(c.a, c.b); !slices.Equal(l, c.union) || e != api.OK {
			t.Errorf("Union(%v, %v): %v, %d", c.a, c.b, l, e)
		}
		if l, e := regex.Meet(c.a, c.b); !slices.Equal(l, c.meet) || e != api.OK {
			t.Errorf("Meet(%v, %v): %v, %d", c.a, c.b, l, e)
		}
		if l, e := regex.Minus(c.a, c.b); !slices.Equal(l, c.minus) || e != api.OK {
			t.Errorf("Minus(%v, %v): %v, %d", c.a, c.b, l, e)
		}
	}
	for _, pair := range [][2][]api.Range{
		{nil, all},
		{[]api.Range{}, all},
		{ranges(9, 9), ranges(10, 10, 13, 13, 32, 55295, 57344, 65533, 65536, 1114111)},
		{ranges(9, 10, 13, 13), ranges(32, 55295, 57344, 65533, 65536, 1114111)},
		{ranges(55295, 55295, 57344, 57344), ranges(9, 10, 13, 13, 32, 55294, 57345, 65533, 65536, 1114111)},
		{ranges(65533, 65533, 65536, 65536), ranges(9, 10, 13, 13, 32, 55295, 57344, 65532, 65537, 1114111)},
		{ranges(1114111, 1114111), ranges(9, 10, 13, 13, 32, 55295, 57344, 65533, 65536, 1114110)},
	} {
		for i, a := range pair {
			if l, e := regex.Not(a); !slices.Equal(l, pair[1-i]) || e != api.OK {
				t.Errorf("Not(%v): %v, %d", a, l, e)
			}
		}
	}
}

func TestSetsOfNoSets(t *testing.T) { // P7.5
	for _, wrong := range wrongSets() {
		if l, e := regex.Not(wrong); len(l) > 0 || e != api.ErrArg {
			t.Errorf("Not(%v): %v, %d", wrong, l, e)
		}
		for _, other := range append(rightSets(), nil, wrong, ranges('b', 'a')) {
			for i, f := range []func(a, b []api.Range) ([]api.Range, api.Errno){regex.Union, regex.Meet, regex.Minus} {
				for _, pair := range [][2][]api.Range{{wrong, other}, {other, wrong}} {
					if l, e := f(pair[0], pair[1]); len(l) > 0 || e != api.ErrArg {
						t.Errorf("function %d of %v: %v, %d", i, pair, l, e)
					}
				}
			}
		}
	}
	for _, right := range rightSets() {
		if _, e := regex.Not(right); e != api.OK {
			t.Errorf("Not(%v): %d", right, e)
		}
	}
}

func TestArgumentsAreLeftAlone(t *testing.T) { // R3
	for s, x := range expressions {
		y := copied(x)
		word := s + "a"
		regex.Check(y)
		regex.Print(y)
		regex.Match(y, word[:min(len(word), 3)])
		if !same(x, y) {
			t.Errorf("%s: the expression has become %v", s, y)
		}
	}
	for _, a := range append(append(rightSets(), wrongSets()...), nil) {
		for _, b := range append(append(rightSets(), wrongSets()...), nil) {
			c, d := slices.Grow(slices.Clone(a), 9), slices.Grow(slices.Clone(b), 9)
			regex.Union(c, d)
			regex.Meet(c, d)
			regex.Minus(c, d)
			regex.Not(c)
			if !slices.Equal(a, c) || !slices.Equal(b, d) {
				t.Errorf("%v and %v have become %v and %v", a, b, c, d)
			}
		}
	}
}

func TestResultsAreNewMemory(t *testing.T) { // R3
	for s, want := range expressions {
		twice := "(" + s + ")|(" + s + ")"
		x, _, e := regex.Parse(twice)
		if e != api.OK {
			t.Errorf("Parse(%s): %d", twice, e)
			continue
		}
		spoil(x.Args[0])
		y, _, _ := regex.Parse(s)
		if !same(x.Args[1], want) || !same(y, want) {
			t.Errorf("Parse(%s) shares memory", twice)
		}
	}
	everything, _ := regex.Not(nil)
	for _, a := range rightSets() {
		for i, f := range []func(a, b []api.Range) ([]api.Range, api.Errno){regex.Union, regex.Meet, regex.Minus} {
			for _, b := range [][]api.Range{nil, ranges('a', 'a'), everything} {
				c, d := slices.Clone(a), slices.Clone(b)
				l, _ := f(c, d)
				spoil(api.Regex{Set: l})
				if !slices.Equal(a, c) || !slices.Equal(b, d) {
					t.Errorf("function %d of %v and %v shares memory", i, a, b)
				}
			}
		}
	}
	l, _ := regex.Not(nil)
	spoil(api.Regex{Set: l})
	if l, _ = regex.Not(nil); !slices.Equal(l, everything) {
		t.Errorf("Not of the empty set: %v", l)
	}
}

func TestAllCharacters(t *testing.T) { // P7.5: those that package chars knows
	l, _ := regex.Not(nil)
	dot, _, _ := regex.Parse(".")
	for c := int32(-1); c < 1114120; c++ {
		if modelHas(l, c) != chars.Valid(c) || modelHas(dot.Set, c) != (chars.Valid(c) && c != 10 && c != 13) {
			t.Errorf("%d", c)
		}
	}
}
