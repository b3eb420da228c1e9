package regex_test

import (
	"fmt"
	"regexp"
	"slices"
	"strconv"
	"strings"
	"testing"
	"unicode/utf8"

	"gabarit/api"
	"gabarit/chars"
)

func empty() api.Regex { return api.Regex{Kind: api.RxEmpty} }

func set(l ...api.Range) api.Regex { return api.Regex{Kind: api.RxSet, Set: l} }

func char(c int32) api.Regex { return set(api.Range{Low: c, High: c}) }

func seq(l ...api.Regex) api.Regex { return api.Regex{Kind: api.RxSeq, Args: l} }

func alt(l ...api.Regex) api.Regex { return api.Regex{Kind: api.RxAlt, Args: l} }

func times(low, high int, l ...api.Regex) api.Regex {
	return api.Regex{Kind: api.RxTimes, Args: l, Low: low, High: high}
}

// ranges is a list of ranges, of pairs of numbers.
func ranges(l ...int32) []api.Range {
	var set []api.Range
	for i := 0; i < len(l); i += 2 {
		set = append(set, api.Range{Low: l[i], High: l[i+1]})
	}
	return set
}

// gaps is a set of so many ranges of one character each.
func gaps(n int) []api.Range {
	var l []api.Range
	for i := range int32(n) {
		l = append(l, api.Range{Low: 1000 + 2*i, High: 1000 + 2*i})
	}
	return l
}

func repeated(n int, x api.Regex) []api.Regex { return slices.Repeat([]api.Regex{x}, n) }

// tower is an expression with so many expressions in each other.
func tower(n int, x api.Regex) api.Regex {
	for range n - 1 {
		x = times(0, -1, x)
	}
	return x
}

func copied(x api.Regex) api.Regex {
	x.Set = slices.Clone(x.Set)
	x.Args = slices.Clone(x.Args)
	for i, arg := range x.Args {
		x.Args[i] = copied(arg)
	}
	return x
}

// same compares expressions; lists may be nil or empty.
func same(x, y api.Regex) bool {
	return x.Kind == y.Kind && x.Low == y.Low && x.High == y.High && slices.Equal(x.Set, y.Set) && slices.EqualFunc(x.Args, y.Args, same)
}

// spoil writes over all the memory of an expression.
func spoil(x api.Regex) {
	for i := range x.Set[:cap(x.Set)] {
		x.Set[:cap(x.Set)][i] = api.Range{Low: -1, High: -1}
	}
	for i := range x.Args {
		spoil(x.Args[i])
	}
	for i := range x.Args[:cap(x.Args)] {
		x.Args[:cap(x.Args)][i] = api.Regex{Kind: -1}
	}
}

// below are how many characters are below each number.
var below = func() []int32 {
	l := make([]int32, 1114114)
	for c := range int32(1114113) {
		l[c+1] = l[c]
		if chars.Valid(c) {
			l[c+1]++
		}
	}
	return l
}()

// modelSet says what a set is by counting characters.
func modelSet(l []api.Range) bool {
	for i, r := range l {
		if r.Low < 0 || r.High > 1114111 || r.Low > r.High || below[r.High+1]-below[r.Low] != r.High+1-r.Low {
			return false
		}
		if i > 0 && int64(r.Low)-int64(l[i-1].High) < 2 {
			return false
		}
	}
	return true
}

func modelSize(x api.Regex) (size, deep int) {
	size = 1
	for _, arg := range x.Args {
		s, d := modelSize(arg)
		size += s
		deep = max(deep, d)
	}
	return size, deep + 1
}

func mostRanges(x api.Regex) int {
	n := len(x.Set)
	for _, arg := range x.Args {
		n = max(n, mostRanges(arg))
	}
	return n
}

func modelValid(x api.Regex) bool {
	want := api.Regex{Kind: x.Kind}
	switch x.Kind {
	case api.RxEmpty:
	case api.RxSet:
		want.Set = x.Set
		if len(x.Set) == 0 || !modelSet(x.Set) {
			return false
		}
	case api.RxSeq, api.RxAlt:
		want.Args = x.Args
		if len(x.Args) < 2 {
			return false
		}
	case api.RxTimes:
		want.Args, want.Low, want.High = x.Args, x.Low, x.High
		if len(x.Args) != 1 || x.Low < 0 || x.Low > 50 || x.High == 0 || x.High < -1 || x.High > 50 || x.High != -1 && x.High < x.Low {
			return false
		}
	default:
		return false
	}
	return same(x, want) && !slices.ContainsFunc(x.Args, func(x api.Regex) bool { return !modelValid(x) })
}

func modelCheck(x api.Regex) api.Errno {
	size, deep := modelSize(x)
	if size > 200 || deep > 20 || mostRanges(x) > 200 {
		return api.ErrLong
	}
	if !modelValid(x) {
		return api.ErrArg
	}
	return api.OK
}

// wrapped says which kinds stand in parentheses in which.
var wrapped = map[int][]int{
	api.RxAlt:   {api.RxAlt},
	api.RxSeq:   {api.RxAlt, api.RxSeq, api.RxEmpty},
	api.RxTimes: {api.RxAlt, api.RxSeq, api.RxTimes, api.RxEmpty},
}

// modelChar writes a character where the signs want a \.
func modelChar(c int32, signs string) string {
	switch c {
	case 10:
		return `\n`
	case 13:
		return `\r`
	case 9:
		return `\t`
	}
	if strings.ContainsRune(signs, c) {
		return `\` + string(c)
	}
	return string(c)
}

const (
	outside = `.\?*+{}()[]|`
	inside  = `[]\-^`
)

func modelPrint(x api.Regex) string {
	var args []string
	for _, arg := range x.Args {
		s := modelPrint(arg)
		if slices.Contains(wrapped[x.Kind], arg.Kind) {
			s = "(" + s + ")"
		}
		args = append(args, s)
	}
	switch x.Kind {
	case api.RxAlt:
		return strings.Join(args, "|")
	case api.RxSeq:
		return strings.Join(args, "")
	case api.RxTimes:
		count := fmt.Sprintf("{%d,%d}", x.Low, x.High)
		count = strings.Replace(count, ",-1", ",", 1)
		if x.Low == x.High {
			count = fmt.Sprintf("{%d}", x.Low)
		}
		if short, ok := map[string]string{"{0,1}": "?", "{0,}": "*", "{1,}": "+"}[count]; ok {
			count = short
		}
		return args[0] + count
	case api.RxSet:
		if r := x.Set[0]; len(x.Set) == 1 && r.Low == r.High {
			return modelChar(r.Low, outside)
		}
		s := "["
		for _, r := range x.Set {
			s += modelChar(r.Low, inside)
			if r.High != r.Low {
				s += "-" + modelChar(r.High, inside)
			}
		}
		return s + "]"
	}
	return ""
}

// modelHas reports whether a character is in a set.
func modelHas(l []api.Range, c int32) bool {
	return slices.ContainsFunc(l, func(r api.Range) bool { return r.Low <= c && c <= r.High })
}

// setBy is the set of the characters for which in is true; that changes at some of the cuts only.
func setBy(cuts []int32, in func(int32) bool) []api.Range {
	cuts = append([]int32{9, 11, 13, 14, 32, 55296, 57344, 65534, 65536, 1114112}, cuts...)
	slices.Sort(cuts)
	cuts = slices.Compact(cuts)
	var l []api.Range
	for i, c := range cuts {
		if c < 0 || c > 1114111 || !chars.Valid(c) || !in(c) {
			continue
		}
		if n := len(l); n > 0 && l[n-1].High == c-1 {
			l[n-1].High = cuts[i+1] - 1
		} else {
			l = append(l, api.Range{Low: c, High: cuts[i+1] - 1})
		}
	}
	return l
}

func cutsOf(l []api.Range) []int32 {
	var cuts []int32
	for _, r := range l {
		cuts = append(cuts, r.Low, r.High+1)
	}
	return cuts
}

var classes = map[byte]func(c int32) bool{
	'd': func(c int32) bool { return c >= '0' && c <= '9' },
	's': func(c int32) bool { return c == 9 || c == 10 || c == 13 || c == 32 },
	'w': func(c int32) bool {
		return c >= '0' && c <= '9' || c >= 'a' && c <= 'z' || c >= 'A' && c <= 'Z' || c == '_'
	},
}

// classCuts are where the classes begin and have ended.
var classCuts = []int32{9, 11, 13, 14, 32, 33, '0', '9' + 1, 'A', 'Z' + 1, '_', '_' + 1, 'a', 'z' + 1}

func classBy(letter byte) func(int32) bool {
	in := classes[letter|0x20]
	if letter&0x20 != 0 {
		return in
	}
	return func(c int32) bool { return !in(c) }
}

// The model of the reader: patterns of the library that are looked for at a place, and stacks of its own.
var (
	countForm    = regexp.MustCompile(`^(?:\?|\*|\+|\{(0|[1-9][0-9]?)(,(0|[1-9][0-9]?)?)?\})`)
	countBegin   = regexp.MustCompile(`^\{(?:(?:0|[1-9][0-9]?)(?:,(?:0|[1-9][0-9]?)?)?)?$`)
	classForm    = regexp.MustCompile(`^\\([dswDSW])`)
	escapeForm   = regexp.MustCompile(`^\\([.\\?*+{}()\[\]|\-^nrt])`)
	unitForm     = regexp.MustCompile(`^[^.\\?*+{}()\[\]|]`)
	singleForm   = regexp.MustCompile(`^(?:[^\[\]\\\-^]|\\[.\\?*+{}()\[\]|\-^nrt])`)
	itemForm     = regexp.MustCompile(`^(?:` + singleForm.String()[1:] + `|\\[dswDSW])`)
	betweenForm  = regexp.MustCompile(`^-(?:[^\[\]\\\-^]|\\[.\\?*+{}()\[\]|\-^nrt])`)
	subtractForm = regexp.MustCompile(`^-\[`)
)

// wrongText and wrongMeaning are what the model of the reader leaves by: where no text can go on, and where what has been read means nothing.
type (
	wrongText    int
	wrongMeaning int
)

type modelReader struct {
	s     string
	at    int
	bad   bool // behind s stand bytes that are no character
	stack [][][]api.Regex
}

// noMeaning is the ErrForm of the model for what can be read, but means nothing.
const noMeaning api.Errno = -1

func modelParse(s string) (x api.Regex, at int, e api.Errno) {
	x, at, e = modelRead(s)
	if e == noMeaning {
		e = api.ErrForm
	}
	return x, at, e
}

// modelRead reads a text with a stack of open parentheses: alternatives of lists of units.
func modelRead(s string) (x api.Regex, at int, e api.Errno) {
	if len(s) > 60000 {
		return api.Regex{}, 0, api.ErrLong
	}
	defer func() {
		switch wrong := recover().(type) {
		case wrongText:
			x, at, e = api.Regex{}, int(wrong), api.ErrForm
		case wrongMeaning:
			x, at, e = api.Regex{}, int(wrong), noMeaning
		}
	}()
	r := &modelReader{s: s, stack: [][][]api.Regex{{{}}}}
	for i, c := range s {
		if c == utf8.RuneError && !strings.HasPrefix(s[i:], "\ufffd") || !chars.Valid(c) {
			r.s, r.bad = s[:i], true
			break
		}
	}
	for r.at < len(r.s) {
		r.unit()
	}
	if len(r.stack) > 1 || r.bad {
		panic(wrongText(r.at))
	}
	x = r.closed()
	if size, deep := modelSize(x); size > 200 || deep > 20 || mostRanges(x) > 200 {
		return api.Regex{}, 0, api.ErrLong
	}
	return x, 0, api.OK
}

func (r *modelReader) rest() string { return r.s[r.at:] }

// closed is the expression of the innermost parentheses.
func (r *modelReader) closed() api.Regex {
	var l []api.Regex
	for _, units := range r.stack[len(r.stack)-1] {
		switch len(units) {
		case 0:
			l = append(l, empty())
		case 1:
			l = append(l, units[0])
		default:
			l = append(l, seq(units...))
		}
	}
	r.stack = r.stack[:len(r.stack)-1]
	if len(l) == 1 {
		return l[0]
	}
	return alt(l...)
}

func (r *modelReader) unit() {
	top := &r.stack[len(r.stack)-1]
	switch c := r.s[r.at]; c {
	case '(':
		r.stack = append(r.stack, [][]api.Regex{{}})
		r.at++
	case '|':
		*top = append(*top, []api.Regex{})
		r.at++
	case ')':
		if len(r.stack) == 1 {
			panic(wrongText(r.at))
		}
		r.at++
		r.counted(r.closed())
	case '[':
		in, cuts := r.set()
		r.counted(set(setBy(cuts, in)...))
	case '.':
		r.at++
		r.counted(set(setBy([]int32{10, 11, 13, 14}, func(c int32) bool { return c != 10 && c != 13 })...))
	case '\\':
		if l := classForm.FindStringSubmatch(r.rest()); l != nil {
			r.at += 2
			r.counted(set(setBy(classCuts, classBy(l[1][0]))...))
		} else if escapeForm.MatchString(r.rest()) {
			r.at += 2
			r.counted(char(meant(r.s[r.at-2 : r.at])))
		} else {
			panic(wrongText(r.at + 1))
		}
	default:
		form := unitForm.FindString(r.rest())
		if form == "" {
			panic(wrongText(r.at))
		}
		r.at += len(form)
		r.counted(char(meant(form)))
	}
}

// counted puts a unit behind the others, with the count behind it.
func (r *modelReader) counted(x api.Regex) {
	if l := countForm.FindStringSubmatch(r.rest()); l != nil {
		r.at += len(l[0])
		switch l[0] {
		case "?":
			x = times(0, 1, x)
		case "*":
			x = times(0, -1, x)
		case "+":
			x = times(1, -1, x)
		default:
			low, _ := strconv.Atoi(l[1])
			high, e := strconv.Atoi(l[3])
			if l[2] == "" {
				high = low
			} else if e != nil {
				high = -1
			}
			x = times(low, high, x)
			if !modelValid(times(low, high, empty())) {
				panic(wrongMeaning(r.at - 1))
			}
		}
	} else if rest := r.rest(); strings.HasPrefix(rest, "{") {
		n := 1
		for n < len(rest) && countBegin.MatchString(rest[:n+1]) {
			n++
		}
		panic(wrongText(r.at + n))
	}
	top := r.stack[len(r.stack)-1]
	top[len(top)-1] = append(top[len(top)-1], x)
}

// meant is the character of a single one, as itself or escaped.
func meant(s string) int32 {
	if c, ok := map[string]int32{`\n`: 10, `\r`: 13, `\t`: 9}[s]; ok {
		return c
	}
	c, _ := utf8.DecodeLastRuneInString(s)
	return c
}

// set reads a set, as what is in it, and where that may change.
func (r *modelReader) set() (func(int32) bool, []int32) {
	r.at++
	not := strings.HasPrefix(r.rest(), "^")
	if not {
		r.at++
	}
	var items []func(int32) bool
	var away func(int32) bool
	cuts := slices.Clone(classCuts)
	for !strings.HasPrefix(r.rest(), "]") || len(items) == 0 {
		if away == nil && len(items) > 0 && subtractForm.MatchString(r.rest()) {
			r.at++
			in, more := r.set()
			away = in
			cuts = append(cuts, more...)
			continue
		}
		rest := r.rest()
		form := itemForm.FindString(rest)
		switch {
		case away != nil:
			panic(wrongText(r.at))
		case form == "" && (strings.HasPrefix(rest, `\`) || len(items) > 0 && strings.HasPrefix(rest, "-")):
			panic(wrongText(r.at + 1))
		case form == "":
			panic(wrongText(r.at))
		}
		r.at += len(form)
		if class := classForm.FindStringSubmatch(form); class != nil {
			items = append(items, classBy(class[1][0]))
			continue
		}
		low := meant(form)
		high := low
		if strings.HasPrefix(r.rest(), "-") && !subtractForm.MatchString(r.rest()) {
			form = betweenForm.FindString(r.rest())
			switch {
			case form == "" && strings.HasPrefix(r.rest(), `-\`):
				panic(wrongText(r.at + 2))
			case form == "":
				panic(wrongText(r.at + 1))
			}
			high = meant(form[1:])
			if high < low {
				panic(wrongMeaning(r.at + 1))
			}
			r.at += len(form)
		}
		cuts = append(cuts, low, high+1)
		items = append(items, func(c int32) bool { return low <= c && c <= high })
	}
	in := func(c int32) bool {
		one := slices.ContainsFunc(items, func(in func(int32) bool) bool { return in(c) })
		return one != not && (away == nil || !away(c))
	}
	if len(setBy(cuts, in)) == 0 {
		panic(wrongMeaning(r.at))
	}
	r.at++
	return in, cuts
}

// modelWords are the words of an expression of at most so many bytes, straight from the table of the kinds; of sets, those of the alphabet.
func modelWords(x api.Regex, alphabet string, most int) map[string]bool {
	l := map[string]bool{}
	switch x.Kind {
	case api.RxEmpty:
		l[""] = true
	case api.RxSet:
		for _, c := range alphabet {
			if modelHas(x.Set, c) && utf8.RuneLen(c) <= most {
				l[string(c)] = true
			}
		}
	case api.RxSeq:
		l[""] = true
		for _, arg := range x.Args {
			l = products(l, modelWords(arg, alphabet, most), most)
		}
	case api.RxAlt:
		for _, arg := range x.Args {
			for w := range modelWords(arg, alphabet, most) {
				l[w] = true
			}
		}
	case api.RxTimes:
		arg := modelWords(x.Args[0], alphabet, most)
		power := map[string]bool{"": true}
		high := x.High
		if high < 0 {
			high = x.Low + most // more of them add nothing but empty words
		}
		for k := range high + 1 {
			if k >= x.Low {
				for w := range power {
					l[w] = true
				}
			}
			power = products(power, arg, most)
		}
	}
	return l
}

func products(a, b map[string]bool, most int) map[string]bool {
	l := map[string]bool{}
	for v := range a {
		for w := range b {
			if len(v)+len(w) <= most {
				l[v+w] = true
			}
		}
	}
	return l
}

// library is a pattern of the library with the same words, if it can have one: it allows no more than 1000 times.
func library(x api.Regex) *regexp.Regexp {
	p, e := regexp.Compile(`\A(?:` + libraryText(x) + `)\z`)
	if e != nil {
		return nil
	}
	return p
}

func libraryText(x api.Regex) string {
	var args []string
	for _, arg := range x.Args {
		args = append(args, "(?:"+libraryText(arg)+")")
	}
	switch x.Kind {
	case api.RxSeq:
		return strings.Join(args, "")
	case api.RxAlt:
		return strings.Join(args, "|")
	case api.RxTimes:
		if x.High < 0 {
			return fmt.Sprintf("%s{%d,}", args[0], x.Low)
		}
		return fmt.Sprintf("%s{%d,%d}", args[0], x.Low, x.High)
	case api.RxSet:
		s := ""
		for _, r := range x.Set {
			s += fmt.Sprintf(`\x{%x}-\x{%x}`, r.Low, r.High)
		}
		return "[" + s + "]"
	}
	return ""
}

// dice throws numbers that are the same in each run.
type dice uint64

func (d *dice) below(n int) int {
	*d = *d*6364136223846793005 + 1442695040888963407
	return int(uint64(*d>>33) % uint64(n))
}

func (d *dice) from(l ...int) int { return l[d.below(len(l))] }

func (d *dice) of(l ...string) string { return l[d.below(len(l))] }

// someChars are characters of one to four bytes, signs among them, and at the ends of the ranges of all characters.
func someChars() []int32 {
	l := []int32{9, 10, 13, 32, 127, 128, 2047, 2048, 55294, 55295, 57344, 57345, 65532, 65533, 65536, 65537, 1114110, 1114111, 228, 8364}
	for _, c := range `.\?*+{}()[]|-^,nrtdswDSW0159aAbBcCzZ_` {
		l = append(l, c)
	}
	return l
}

func (d *dice) char() int32 {
	l := someChars()
	if d.below(3) == 0 {
		return int32('a' + d.below(4))
	}
	return l[d.below(len(l))]
}

// set is a set of some characters and ranges, by the model.
func (d *dice) set() []api.Range {
	var l []api.Range
	for range 1 + d.below(4) {
		a, b := d.char(), d.char()
		if d.below(2) == 0 {
			b = a + int32(d.below(3))
		}
		l = append(l, api.Range{Low: min(a, b), High: max(a, b)})
	}
	not := d.below(4) == 0
	s := setBy(cutsOf(l), func(c int32) bool { return modelHas(l, c) != not })
	if len(s) == 0 {
		return d.set()
	}
	return s
}

func (d *dice) times() (low, high int) {
	low = d.from(0, 0, 0, 1, 1, 2, 3, 5, 9, 10, 49, 50)
	return low, d.from(-1, -1, max(low, 1), min(max(low, 1)+d.below(4), 50), 50)
}

// regex is a valid expression of at most so many expressions in each other, and some of one character.
func (d *dice) regex(deep int, unit func() api.Regex) api.Regex {
	if deep == 1 || d.below(4) == 0 {
		if d.below(8) == 0 {
			return empty()
		}
		return unit()
	}
	var l []api.Regex
	for range 2 + d.below(3) {
		l = append(l, d.regex(deep-1, unit))
	}
	switch d.below(3) {
	case 0:
		return seq(l...)
	case 1:
		return alt(l...)
	}
	low, high := d.times()
	return times(low, high, l[0])
}

// large is valid, but not always small: an expression in others, or several times, or a set of many ranges.
func (d *dice) large(x api.Regex) api.Regex {
	switch d.below(4) {
	case 0:
		return tower(d.from(14, 15, 16, 17, 18, 19, 20, 21), x)
	case 1:
		size, _ := modelSize(x)
		return alt(append(repeated(max(199/size, 1), x), repeated(d.from(1, 199%size, 199%size+1), empty())...)...)
	case 2:
		return seq(x, set(gaps(d.from(199, 200, 201))...))
	}
	return x
}

func (d *dice) anyUnit() api.Regex {
	if d.below(2) == 0 {
		return char(d.char())
	}
	return set(d.set()...)
}

// spelt is one of the texts of a valid expression.
func (d *dice) spelt(x api.Regex) string {
	var args []string
	for _, arg := range x.Args {
		s := d.spelt(arg)
		if slices.Contains(wrapped[x.Kind], arg.Kind) || d.below(8) == 0 {
			s = "(" + s + ")"
		}
		args = append(args, s)
	}
	switch x.Kind {
	case api.RxAlt:
		return strings.Join(args, "|")
	case api.RxSeq:
		return strings.Join(args, "")
	case api.RxTimes:
		return args[0] + d.speltTimes(x)
	case api.RxSet:
		return d.speltSet(x.Set)
	}
	return ""
}

func (d *dice) speltTimes(x api.Regex) string {
	l := []string{fmt.Sprintf("{%d,%d}", x.Low, x.High)}
	if x.High < 0 {
		l[0] = fmt.Sprintf("{%d,}", x.Low)
	}
	if x.Low == x.High {
		l = append(l, fmt.Sprintf("{%d}", x.Low))
	}
	if short, ok := map[[2]int]string{{0, 1}: "?", {0, -1}: "*", {1, -1}: "+"}[[2]int{x.Low, x.High}]; ok {
		l = append(l, short)
	}
	return d.of(l...)
}

func (d *dice) speltChar(c int32, signs string) string {
	s, escaped := string(c), strings.ContainsRune(outside+"-^", c)
	if c == 9 || c == 10 || c == 13 {
		return d.of(s, map[int32]string{9: `\t`, 10: `\n`, 13: `\r`}[c])
	}
	if strings.ContainsRune(signs, c) || escaped && d.below(2) == 0 {
		return `\` + s
	}
	return s
}

func (d *dice) speltSet(l []api.Range) string {
	if l[0].Low == l[0].High && len(l) == 1 && d.below(3) > 0 {
		return d.speltChar(l[0].Low, outside)
	}
	for letter := range classes {
		for _, one := range []byte{letter, letter - 0x20} {
			if slices.Equal(l, setBy(classCuts, classBy(one))) && d.below(2) == 0 {
				return `\` + string(rune(one))
			}
		}
	}
	without := setBy(cutsOf(l), func(c int32) bool { return !modelHas(l, c) })
	switch {
	case d.below(4) == 0 && len(without) > 0:
		return "[^" + d.items(without) + "]"
	case d.below(4) == 0:
		return d.speltAway(l)
	}
	return "[" + d.items(l) + "]"
}

// speltAway writes a set as a greater one without another one.
func (d *dice) speltAway(l []api.Range) string {
	more := d.set()
	all := setBy(cutsOf(append(more, l...)), func(c int32) bool { return modelHas(l, c) || modelHas(more, c) })
	away := setBy(cutsOf(append(more, l...)), func(c int32) bool { return modelHas(more, c) && !modelHas(l, c) })
	if len(away) == 0 {
		return "[" + d.items(l) + "]"
	}
	s := d.speltSet(away)
	if !strings.HasPrefix(s, "[") {
		s = "[" + d.items(away) + "]"
	}
	return "[" + d.items(all) + "-" + s + "]"
}

// items writes ranges in any order, some of them twice, or in parts that overlap or touch.
func (d *dice) items(l []api.Range) string {
	l = slices.Clone(l)
	for range d.below(3) {
		r := l[d.below(len(l))]
		some := r.Low + int32(d.below(int(r.High-r.Low)+1))
		l = append(l, api.Range{Low: r.Low, High: some}, api.Range{Low: some, High: r.High})
	}
	for i := range l {
		j := d.below(i + 1)
		l[i], l[j] = l[j], l[i]
	}
	s := ""
	for _, r := range l {
		s += d.speltChar(r.Low, inside)
		if r.Low < r.High || d.below(4) == 0 {
			s += "-" + d.speltChar(r.High, inside)
		}
	}
	return s
}

// spoilt is a text with something else at one place.
func (d *dice) spoilt(s string) string {
	i := d.below(len(s) + 1)
	j := min(i+d.below(3), len(s))
	piece := d.of("", "(", ")", "[", "]", "{", "}", "|", "?", "*", "+", "-", "^", `\`, ",", "0", "1", "51", "99", "a", "-[", "[^", "{0}", "{2,1}", "[a-[a]]", `\d`, `\W`, `\q`, "\xff", "\u00e4", "\U0010ffff", "\x00", "\uffff")
	return s[:i] + piece + s[j:]
}

// word is a word of an expression, unless that becomes too long.
func (d *dice) word(x api.Regex) string {
	s := ""
	switch x.Kind {
	case api.RxSet:
		r := x.Set[d.below(len(x.Set))]
		s = string(r.Low + int32(d.below(int(min(r.High-r.Low, 5))+1)))
	case api.RxSeq:
		for _, arg := range x.Args {
			s += d.word(arg)
		}
	case api.RxAlt:
		s = d.word(x.Args[d.below(len(x.Args))])
	case api.RxTimes:
		n := x.Low + d.below(4)
		if x.High > 0 {
			n = min(n, x.High)
		}
		for range n {
			if len(s) < 1000 {
				s += d.word(x.Args[0])
			}
		}
	}
	return s
}

// results counts what the cases of a test come to, so that none of them is left out.
type results map[any]int

func (r results) atLeast(t *testing.T, n int, l ...any) {
	t.Helper()
	for _, result := range l {
		if r[result] < n {
			t.Errorf("%v: %d times", result, r[result])
		}
	}
}
