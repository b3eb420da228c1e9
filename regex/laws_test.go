package regex_test

import (
	"slices"
	"strings"
	"testing"
	"unicode/utf8"

	"gabarit/api"
	"gabarit/chars"
	"gabarit/regex"
)

func TestCheckAgreesWithTheModel(t *testing.T) { // P7.1
	d, met := dice(1), results{}
	for range 10000 {
		x := d.regex(1+d.below(5), d.anyUnit)
		for range d.below(3) {
			x = d.wrong(x)
		}
		want := modelCheck(x)
		if e := regex.Check(x); e != want {
			t.Errorf("Check(%v): %d, not %d", x, e, want)
		}
		met[want]++
	}
	met.atLeast(t, 500, api.OK, api.ErrArg, api.ErrLong)
}

// wrong is an expression that is another one in one place, and often not valid.
func (d *dice) wrong(x api.Regex) api.Regex {
	x = copied(x)
	at := &x
	for len(at.Args) > 0 && d.below(4) > 0 {
		at = &at.Args[d.below(len(at.Args))]
	}
	switch d.below(9) {
	case 0:
		at.Kind = d.from(-1, 0, 1, 2, 3, 4, 5, 6)
	case 1:
		at.Low = d.from(-1, 0, 1, 49, 50, 51, 1<<62, -1<<63)
	case 2:
		at.High = d.from(-2, -1, 0, 1, 49, 50, 51, 1<<63-1, -1<<63)
	case 3:
		at.Args = repeated(d.from(0, 1, 2, 3, 198, 199, 200, 201), empty())
	case 4:
		at.Set = gaps(d.from(0, 1, 199, 200, 201))
	case 5:
		at.Set = append(at.Set, api.Range{Low: d.char(), High: d.char()})
	case 6:
		at.Set = append(gaps(0), api.Range{Low: int32(d.from(0, 8, 9, 11, 31, 32, 55296)), High: int32(d.from(9, 10, 12, 13, 14, 55295, 57343, 57344, 1114112))})
	case 7:
		*at = tower(d.from(2, 14, 15, 16, 17, 18, 19, 20, 21), *at)
	case 8:
		*at = api.Regex{Kind: at.Kind, Args: at.Args}
	}
	return x
}

func TestPrintAgreesWithTheModel(t *testing.T) { // P7.3, P7.6
	d, met := dice(2), results{}
	for range 10000 {
		x := d.regex(1+d.below(5), d.anyUnit)
		if d.below(4) == 0 {
			x = d.large(x)
		}
		want := modelCheck(x)
		s, e := regex.Print(x)
		if want == api.OK && s != modelPrint(x) || want != api.OK && s != "" || e != want {
			t.Fatalf("Print(%v): %s, %d", x, s, e)
		}
		met[want]++
		if e != api.OK {
			continue
		}
		if y, at, e := regex.Parse(s); !same(x, y) || at != 0 || e != api.OK {
			t.Fatalf("Parse(%q): %v, %d, %d, not %v", s, y, at, e, x)
		}
	}
	met.atLeast(t, 500, api.OK, api.ErrLong)
}

func TestParseOfOtherTexts(t *testing.T) { // P7.2
	d, met := dice(3), results{}
	for range 10000 {
		x := d.regex(1+d.below(5), d.anyUnit)
		if d.below(4) == 0 {
			x = d.large(x)
		}
		s, want := d.spelt(x), modelCheck(x)
		y, at, e := regex.Parse(s)
		if want == api.OK && !same(x, y) || want != api.OK && y.Kind != 0 || at != 0 || e != want {
			t.Fatalf("Parse(%q): %v, %d, %d, not %v", s, y, at, e, x)
		}
		met[want]++
	}
	met.atLeast(t, 300, api.OK, api.ErrLong)
}

func TestParseAgreesWithTheModel(t *testing.T) { // P7.2
	d, met := dice(4), results{}
	for range 15000 {
		x := d.regex(1+d.below(4), d.anyUnit)
		if d.below(10) == 0 {
			x = d.large(x)
		}
		s := d.spelt(x)
		for range d.below(4) {
			s = d.spoilt(s)
		}
		want, place, wrong := modelParse(s)
		x, at, e := regex.Parse(s)
		if !same(x, want) || at != place || e != wrong {
			t.Fatalf("Parse(%q): %v, %d, %d, not %v, %d, %d", s, x, at, e, want, place, wrong)
		}
		met[e]++
	}
	met.atLeast(t, 5000, api.OK, api.ErrForm)
	met.atLeast(t, 50, api.ErrLong)
}

// TestParseOfAllShortTexts goes through the texts of signs of all sorts, and looks at the definition of the place of an error: some text of an expression goes on behind what stands before it, and none behind what stands there.
func TestParseOfAllShortTexts(t *testing.T) { // P7.2
	met := results{}
	signs := []string{"a", "2", "0", "(", ")", "[", "]", "{", "}", "|", "*", "-", "^", ",", "\\", "d", "\u00e4", "\xff"}
	type beginning struct {
		s    string
		more int
	}
	l := []beginning{{"", 4}, {"a{", 3}, {"(a", 3}, {"[a", 3}, {"[^", 3}, {"[ab-[", 3}, {"[\\d", 3}}
	for len(l) > 0 {
		s, more := l[0].s, l[0].more
		l = l[1:]
		want, place, wrong := modelRead(s)
		x, at, e := regex.Parse(s)
		met[wrong]++
		if wrong == api.ErrForm && place < len(s) {
			_, size := utf8.DecodeRuneInString(s[place:])
			if !goesOn(s[:place]) || goesOn(s[:place+size]) {
				t.Errorf("%q: the model tells an error at %d", s, place)
			}
		} else if wrong != noMeaning && more > 0 { // a text that is wrong is so whatever stands behind it
			for _, sign := range signs {
				l = append(l, beginning{s + sign, more - 1})
			}
		}
		if wrong == noMeaning {
			wrong = api.ErrForm
		}
		if !same(x, want) || at != place || e != wrong {
			t.Errorf("Parse(%q): %v, %d, %d, not %v, %d, %d", s, x, at, e, want, place, wrong)
		}
	}
	met.atLeast(t, 10000, api.OK, api.ErrForm)
	met.atLeast(t, 100, noMeaning)
}

// goesOn reports whether some text of an expression begins with s.
func goesOn(s string) bool {
	for _, first := range []string{"", "a", "n", "{", "3}", ",3}", "}", "[b]", "\U0010ffff"} {
		for _, brackets := range []string{"", "]", "]]"} {
			for _, parentheses := range []string{"", ")", "))", ")))", "))))"} {
				if _, _, e := regex.Parse(s + first + brackets + parentheses); e == api.OK {
					return true
				}
			}
		}
	}
	return false
}

func TestMatchAgreesWithTheWords(t *testing.T) { // P7.4
	d, met := dice(5), results{}
	var all []string
	for l := []string{""}; len(l[0]) < 6; l = append(l[1:], l[0]+"a", l[0]+"b") {
		all = append(all, l[0])
	}
	for range 3000 {
		x := d.regex(1+d.below(5), d.letter)
		if modelCheck(x) != api.OK {
			continue
		}
		words := modelWords(x, "ab", 5)
		for _, s := range all {
			if is, e := regex.Match(x, s); is != words[s] || e != api.OK {
				t.Fatalf("Match(%s, %s): %v, %d", modelPrint(x), s, is, e)
			}
			met[words[s]]++
		}
	}
	met.atLeast(t, 10000, true, false)
}

// letter is a set of few letters.
func (d *dice) letter() api.Regex {
	return [...]api.Regex{char('a'), char('b'), set(ranges('a', 'b')...), char('c')}[d.from(0, 0, 0, 1, 1, 1, 2, 2, 3)]
}

func TestMatchAgreesWithTheLibrary(t *testing.T) { // P7.4
	d, met := dice(6), results{}
	for range 3000 {
		unit := d.anyUnit
		if d.below(2) == 0 {
			unit = d.letter
		}
		x := d.regex(1+d.below(5), unit)
		p := library(x)
		if modelCheck(x) != api.OK || p == nil {
			continue
		}
		for range 5 {
			s := d.word(x)
			if d.below(2) == 0 {
				s = d.spoilt(s)
			}
			_, _, e := chars.Decode(s)
			if e == api.OK && len(s) > 1000 {
				e = api.ErrLong
			}
			want := e == api.OK && p.MatchString(s)
			if is, f := regex.Match(x, s); is != want || f != e {
				t.Fatalf("Match(%s, %q): %v, %d", modelPrint(x), s, is, f)
			}
			met[want]++
			met[e]++
		}
	}
	met.atLeast(t, 1000, true, false, api.OK)
	met.atLeast(t, 10, api.ErrForm, api.ErrLong)
}

// TestMatchOfLongWords counts how often a letter may stand.
func TestMatchOfLongWords(t *testing.T) { // P7.4
	for _, low := range []int{0, 1, 2, 7, 31, 50} {
		for _, high := range []int{-1, 1, 2, 13, 50} {
			if high >= 0 && high < low {
				continue
			}
			for inner := 1; inner <= 20; inner += 6 {
				x := times(low, high, times(inner, inner, char('a')))
				for n := 0; n <= 1000; n += 1 + n/20 {
					want := n%inner == 0 && n >= low*inner && (high < 0 || n <= high*inner)
					if is, e := regex.Match(x, strings.Repeat("a", n)); is != want || e != api.OK {
						t.Errorf("Match(%s, %d times a): %v, %d", modelPrint(x), n, is, e)
					}
				}
			}
		}
	}
}

func TestSetsAgreeWithTheModel(t *testing.T) { // P7.5, P7.7
	d, met := dice(7), results{}
	for range 20000 {
		a, b := d.set(), d.set()
		if d.below(10) == 0 {
			a = nil
		}
		if d.below(10) == 0 {
			b = d.spoiltSet(b)
		}
		want := api.OK
		if !modelSet(a) || !modelSet(b) {
			want = api.ErrArg
		}
		met[want]++
		for i, f := range []func(a, b []api.Range) ([]api.Range, api.Errno){regex.Union, regex.Meet, regex.Minus, notBoth} {
			l, e := f(a, b)
			model := setBy(append(cutsOf(a), cutsOf(b)...), func(c int32) bool {
				inA, inB := modelHas(a, c), modelHas(b, c)
				return [4]bool{inA || inB, inA && inB, inA && !inB, !inA && !inB}[i]
			})
			if want == api.OK && !slices.Equal(l, model) || want != api.OK && len(l) > 0 || e != want {
				t.Fatalf("function %d of %v and %v: %v, %d", i, a, b, l, e)
			}
		}
	}
	met.atLeast(t, 1000, api.OK, api.ErrArg)
}

func notBoth(a, b []api.Range) ([]api.Range, api.Errno) {
	notA, e := regex.Not(a)
	if e != api.OK {
		return nil, e
	}
	notB, e := regex.Not(b)
	if e != api.OK {
		return nil, e
	}
	return regex.Meet(notA, notB)
}

// spoiltSet is often no set.
func (d *dice) spoiltSet(l []api.Range) []api.Range {
	r := &l[d.below(len(l))]
	n := int32(d.from(-1<<31, -1, 0, 8, 11, 12, 14, 31, 55296, 57343, 65534, 65535, 1114112, 1<<31-1, 9, 10, 13, 32, 97, 1114111))
	switch d.below(4) {
	case 0:
		r.Low = n
	case 1:
		r.High = n
	case 2:
		r.Low, r.High = r.High, r.Low
	case 3:
		l = append(l, api.Range{Low: n, High: n})
	}
	return l
}

func TestLawsOfSets(t *testing.T) { // P7.7
	must := func(l []api.Range, e api.Errno) []api.Range {
		if e != api.OK {
			t.Fatal(e)
		}
		return l
	}
	union := func(a, b []api.Range) []api.Range { return must(regex.Union(a, b)) }
	meet := func(a, b []api.Range) []api.Range { return must(regex.Meet(a, b)) }
	minus := func(a, b []api.Range) []api.Range { return must(regex.Minus(a, b)) }
	not := func(a []api.Range) []api.Range { return must(regex.Not(a)) }
	everything := not(nil)
	d := dice(8)
	for range 3000 {
		a, b, c := d.set(), d.set(), d.set()
		for i, pair := range [][2][]api.Range{
			{union(a, b), union(b, a)},
			{meet(a, b), meet(b, a)},
			{union(a, union(b, c)), union(union(a, b), c)},
			{meet(a, meet(b, c)), meet(meet(a, b), c)},
			{meet(a, union(b, c)), union(meet(a, b), meet(a, c))},
			{union(a, meet(b, c)), meet(union(a, b), union(a, c))},
			{union(a, meet(a, b)), a},
			{meet(a, union(a, b)), a},
			{not(not(a)), a},
			{not(union(a, b)), meet(not(a), not(b))},
			{not(meet(a, b)), union(not(a), not(b))},
			{minus(a, b), meet(a, not(b))},
			{union(a, not(a)), everything},
			{meet(a, not(a)), nil},
			{union(a, nil), a},
			{meet(a, everything), a},
			{union(a, everything), everything},
			{meet(a, nil), nil},
			{minus(a, a), nil},
			{minus(a, nil), a},
			{minus(nil, a), nil},
			{minus(everything, a), not(a)},
		} {
			if !slices.Equal(pair[0], pair[1]) {
				t.Fatalf("law %d of %v, %v, %v: %v and %v", i, a, b, c, pair[0], pair[1])
			}
		}
	}
}
