package names

import (
	"strconv"
	"strings"
	"testing"

	"gabarit/api"
)

func TestCheckForms(t *testing.T) { // P1.1
	for i, c := range []struct {
		c    api.Class
		want api.Errno
	}{
		{name("", "x"), api.OK},
		{name(long(200), long(200)), api.OK},
		{name(long(201), "x"), api.ErrArg},
		{name("a", long(201)), api.ErrArg},
		{name("a", ""), api.ErrArg},
		{space(""), api.OK},
		{space(long(200)), api.OK},
		{space(long(201)), api.ErrArg},
		{space("a", name("b", "x")), api.OK},
		{space("a", name("a", "x"), name("a", "y")), api.ErrArg},
		{all(), api.OK},
		{all(space("a")), api.OK},
		{all(space("a"), space("b")), api.ErrArg},
		{choice(name("a", "x")), api.OK},
		{choice(name("a", "x"), name("a", "x")), api.OK},
		{choice(), api.ErrArg},
		{api.Class{}, api.ErrArg},
		{api.Class{Kind: -1}, api.ErrArg},
		{api.Class{Kind: api.ClChoice + 1, Args: []api.Class{all()}}, api.ErrArg},
		{all(name("", "")), api.ErrArg},
		{choice(all(), space("a", choice(all(), api.Class{}))), api.ErrArg},
	} {
		if e := Check(c.c); e != c.want {
			t.Errorf("%d: Check(%s): %d, not %d", i, show(c.c), e, c.want)
		}
	}
}

func TestCheckUnused(t *testing.T) { // P1.1, R4, R8
	x := []api.Class{all()}
	for i, c := range []api.Class{
		{Kind: api.ClName, Name: nm("a", "x"), Space: "a"},
		{Kind: api.ClName, Name: nm("a", "x"), Except: x},
		{Kind: api.ClName, Name: nm("a", "x"), Args: x},
		{Kind: api.ClSpace, Space: "a", Name: nm("a", "")},
		{Kind: api.ClSpace, Space: "a", Name: nm("", "x")},
		{Kind: api.ClSpace, Space: "a", Args: x},
		{Kind: api.ClAny, Name: nm("", "x")},
		{Kind: api.ClAny, Space: "a"},
		{Kind: api.ClAny, Args: x},
		{Kind: api.ClChoice, Args: x, Name: nm("a", "")},
		{Kind: api.ClChoice, Args: x, Space: "a"},
		{Kind: api.ClChoice, Args: x, Except: x},
	} {
		if e := Check(c); e != api.ErrArg {
			t.Errorf("%d: %d", i, e)
		}
	}
	empty := []api.Class{}
	for i, c := range []api.Class{
		{Kind: api.ClName, Name: nm("a", "x"), Except: empty, Args: empty},
		{Kind: api.ClSpace, Except: empty, Args: empty},
		{Kind: api.ClAny, Except: empty, Args: empty},
		{Kind: api.ClChoice, Except: empty, Args: x},
	} {
		if e := Check(c); e != api.OK {
			t.Errorf("empty lists %d: %d", i, e)
		}
	}
}

func TestCheckSmall(t *testing.T) { // P1.1
	for i, c := range []struct {
		c    api.Class
		want api.Errno
	}{
		{choice(repeat(99, all())...), api.OK},
		{choice(repeat(100, all())...), api.ErrLong},
		{all(choice(repeat(98, all())...)), api.OK},
		{all(choice(repeat(99, all())...)), api.ErrLong},
		{choice(repeat(49, all(all()))...), api.OK},
		{choice(repeat(50, all(all()))...), api.ErrLong},
		{nested(10), api.OK},
		{nested(11), api.ErrLong},
		{choice(all(), nested(9)), api.OK},
		{choice(all(), nested(10)), api.ErrLong},
		{space("a", nested(9)), api.OK},
		{space("a", nested(10)), api.ErrLong},
		// classes in unused fields count, and ErrLong comes before ErrArg wherever both stand
		{api.Class{Kind: api.ClName, Name: nm("a", "x"), Args: repeat(99, all())}, api.ErrArg},
		{api.Class{Kind: api.ClName, Name: nm("a", "x"), Args: repeat(100, all())}, api.ErrLong},
		{api.Class{Kind: api.ClChoice, Except: repeat(50, all()), Args: repeat(50, all())}, api.ErrLong},
		{api.Class{Kind: api.ClAny, Args: []api.Class{nested(10)}}, api.ErrLong},
		{api.Class{Args: repeat(100, api.Class{})}, api.ErrLong},
		{choice(api.Class{}, nested(10)), api.ErrLong},
		{choice(nested(10), api.Class{}), api.ErrLong},
		{endless(), api.ErrLong},
	} {
		if e := Check(c.c); e != c.want {
			t.Errorf("%d: %d, not %d", i, e, c.want)
		}
	}
}

func TestLess(t *testing.T) { // P1.1
	l := []api.Name{nm("", ""), nm("", "a"), nm("", "z"), nm("A", "z"), nm("a", ""), nm("a", "B"), nm("a", "b"), nm("a", "bb"), nm("a", "\xff"), nm("aa", "a"), nm(long(300), "a"), nm(long(300), long(300))}
	for i, a := range l {
		for j, b := range l {
			if Less(a, b) != (i < j) {
				t.Errorf("Less(%v, %v): %v", a, b, i >= j)
			}
		}
	}
}

func TestHas(t *testing.T) { // P1.2
	for i, c := range []struct {
		c    api.Class
		n    api.Name
		want bool
	}{
		{all(name("a", "x")), nm("a", "x"), false},
		{all(name("a", "x")), nm("b", "x"), true},
		{name("a", "x"), nm("a", "x"), true},
		{name("a", "x"), nm("a", "y"), false},
		{name("a", "x"), nm("", "x"), false},
		{space(""), nm("", "x"), true},
		{space(""), nm("a", "x"), false},
		{space("a", name("a", "x")), nm("a", "x"), false},
		{space("a", name("a", "x")), nm("a", "y"), true},
		{space("a", all(name("a", "x"))), nm("a", "x"), true},
		{choice(name("a", "x"), space("b")), nm("b", "y"), true},
		{choice(name("a", "x"), space("b")), nm("a", "y"), false},
		{none(), nm("a", "x"), false},
		{nested(9), nm("a", "x"), true},
		{nested(10), nm("a", "x"), false},
		{all(), nm(long(200), long(200)), true},
	} {
		if is, e := Has(c.c, c.n); is != c.want || e != api.OK {
			t.Errorf("%d: Has(%s, %v): %v, %d", i, show(c.c), c.n, is, e)
		}
	}
	for i, c := range []struct {
		c    api.Class
		n    api.Name
		want api.Errno
	}{
		{all(), nm("a", ""), api.ErrArg},
		{all(), nm("a", long(201)), api.ErrArg},
		{all(), nm(long(201), "x"), api.ErrArg},
		{choice(all(), choice()), nm("a", "x"), api.ErrArg},
		{nested(11), nm("a", ""), api.ErrLong},
		{endless(), nm("a", "x"), api.ErrLong},
	} {
		if is, e := Has(c.c, c.n); is || e != c.want {
			t.Errorf("error %d: %v, %d", i, is, e)
		}
	}
}

func TestNormal(t *testing.T) { // P1.3
	for _, c := range []struct {
		c    api.Class
		want string
	}{
		{choice(name("a", "x"), space("a")), "a:*"},
		{choice(name("a", "x"), name("b", "y"), name("a", "b")), "{a:b|a:x|b:y}"},
		{choice(name("a", "x"), name("a", "x")), "a:x"},
		{choice(name("a", "x"), name("", "z"), space("b"), name("c", "x")), "{:z|a:x|b:*|c:x}"},
		{space("a", space("a")), "*-(*)"},
		{space("a", name("b", "x")), "a:*"},
		{space("a", choice(name("a", "y"), name("a", "x"), name("b", "x"))), "a:*-({a:x|a:y})"},
		{choice(all(space("a")), space("a", name("a", "x"))), "*-(a:x)"},
		{all(choice(space("b", choice(name("b", "y"), name("b", "x"))), name("a", "z"), space("c"))), "*-({a:z|b:*-({b:x|b:y})|c:*})"},
		{all(space("a", choice(name("a", "x")))), "*-(a:*-(a:x))"},
		{all(choice(name("a", "y"), name("a", "x"))), "*-({a:x|a:y})"},
		{nested(9), "*"},
		{nested(10), "*-(*)"},
		{choice(space("b", all()), name("a", "x")), "a:x"},
		{choice(all(space("")), name("", "x")), "*-(:*-(:x))"},
		{choice(choice(choice(space("")))), ":*"},
	} {
		n, e := Normal(c.c)
		if e != api.OK || show(n) != c.want || Check(n) != api.OK {
			t.Errorf("Normal(%s): %s, %d, not %s", show(c.c), show(n), e, c.want)
		}
	}
}

func TestCombine(t *testing.T) { // P1.3
	for _, c := range []struct {
		what string
		f    func(a, b api.Class) (api.Class, api.Errno)
		a, b api.Class
		want string
	}{
		{"Minus", Minus, all(), space("a"), "*-(a:*)"},
		{"Minus", Minus, space("a"), name("a", "x"), "a:*-(a:x)"},
		{"Minus", Minus, name("a", "x"), all(), "*-(*)"},
		{"Minus", Minus, name("a", "x"), name("b", "x"), "a:x"},
		{"Minus", Minus, space("a"), space("a", name("a", "x")), "a:x"},
		{"Meet", Meet, all(space("a")), choice(name("a", "x"), name("b", "y")), "b:y"},
		{"Meet", Meet, all(name("a", "y")), all(name("a", "x")), "*-({a:x|a:y})"},
		{"Meet", Meet, space("a"), space("b"), "*-(*)"},
		{"Meet", Meet, space("a"), all(name("a", "x")), "a:*-(a:x)"},
		{"Join", Join, all(space("a")), name("a", "x"), "*-(a:*-(a:x))"},
		{"Join", Join, space("b"), space("a"), "{a:*|b:*}"},
		{"Join", Join, none(), none(), "*-(*)"},
		{"Join", Join, space("a"), all(space("a")), "*"},
	} {
		x, e := c.f(c.a, c.b)
		if e != api.OK || show(x) != c.want {
			t.Errorf("%s(%s, %s): %s, %d, not %s", c.what, show(c.a), show(c.b), show(x), e, c.want)
		}
	}
}

// spread is k full spaces, each without two names; its normal class has 4k+1 classes, and this one 3k+4.
func spread(k int) api.Class {
	var spaces, l []api.Class
	for i := range k {
		s := string([]byte{'a' + byte(i)})
		spaces = append(spaces, space(s))
		l = append(l, name(s, "x"), name(s, "y"))
	}
	return all(choice(append(l, all(choice(spaces...)))...))
}

func TestNormalLong(t *testing.T) { // P1.3
	if n, e := Normal(spread(24)); e != api.OK || len(n.Args) != 24 {
		t.Errorf("97 classes: %s, %d", show(n), e)
	}
	if n, e := Normal(spread(25)); e != api.ErrLong || !same(n, api.Class{}) {
		t.Errorf("101 classes: %s, %d", show(n), e)
	}
	half, other := choice(numbered("a", 50)...), numbered("b", 50)
	for i, f := range []func(a, b api.Class) (api.Class, api.Errno){Join, Join, Minus, Meet} {
		a, b := half, choice(other[:49]...)
		if i > 0 {
			b = choice(other...)
		}
		if i == 2 {
			a = all(half)
		}
		if i == 3 {
			a, b = all(half), all(b)
		}
		want := []api.Errno{api.OK, api.ErrLong, api.ErrLong, api.ErrLong}[i]
		x, e := f(a, b)
		if e != want || e != api.OK && !same(x, api.Class{}) {
			t.Errorf("%d: %d, not %d", i, e, want)
		}
	}
	if x, e := Minus(all(choice(numbered("a", 50)...)), choice(other[:48]...)); e != api.OK || len(x.Except[0].Args) != 98 {
		t.Errorf("98 names left out: %d", e)
	}
}

// TestErrors: each function returns the error of the first class that has one, and nothing else.
func TestErrors(t *testing.T) { // P1.3, P1.4, P1.5, R2
	good, wrong, big := all(), api.Class{}, nested(11)
	for i, c := range []struct {
		a, b api.Class
		want api.Errno
	}{{wrong, big, api.ErrArg}, {big, wrong, api.ErrLong}, {good, wrong, api.ErrArg}, {good, big, api.ErrLong}, {wrong, good, api.ErrArg}, {good, endless(), api.ErrLong}} {
		for j, f := range []func(a, b api.Class) (api.Class, api.Errno){Join, Meet, Minus} {
			if x, e := f(c.a, c.b); e != c.want || !same(x, api.Class{}) {
				t.Errorf("%d, %d: %s, %d", i, j, show(x), e)
			}
		}
		for j, f := range []func(a, b api.Class) (bool, api.Errno){Includes, Overlap} {
			if is, e := f(c.a, c.b); e != c.want || is {
				t.Errorf("%d, %d: %v, %d", i, j, is, e)
			}
		}
	}
	for i, c := range []struct {
		c    api.Class
		want api.Errno
	}{{wrong, api.ErrArg}, {big, api.ErrLong}, {endless(), api.ErrLong}} {
		x, e := Normal(c.c)
		is, f := Empty(c.c)
		n, g := Witness(c.c, nil)
		l, h := Cells([]api.Class{good, c.c})
		if !same(x, api.Class{}) || is || n != (api.Name{}) || len(l) != 0 {
			t.Errorf("%d: results beside an error", i)
		}
		if e != c.want || f != c.want || g != c.want || h != c.want {
			t.Errorf("%d: %d, %d, %d, %d", i, e, f, g, h)
		}
	}
}

func TestAsks(t *testing.T) { // P1.4
	for _, c := range []struct {
		a, b                      api.Class
		empty, includes, overlaps bool
	}{
		{all(), space("a"), false, true, true},
		{space("a"), all(), false, false, true},
		{space("a"), space("a"), false, true, true},
		{space("a"), space("b"), false, false, false},
		{none(), name("a", "x"), true, false, false},
		{none(), none(), true, true, false},
		{name("a", "x"), space("a", space("a")), false, true, false},
		{all(name("a", "x")), name("a", "x"), false, false, false},
		{space("a", choice(name("a", "x"), name("a", "x1"))), choice(name("a", "x"), name("a", "x1")), false, false, false},
		{all(space("a", name("a", "x"))), choice(name("a", "x"), space("b")), false, true, true},
		{all(space("u")), all(), false, false, true},
		{all(choice(space("a"), space("u"))), choice(space("a"), space("u")), false, false, false},
		{space("a", all(name("a", "x"))), name("a", "x"), false, true, true},
	} {
		empty, e := Empty(c.a)
		includes, f := Includes(c.a, c.b)
		overlaps, g := Overlap(c.a, c.b)
		if empty != c.empty || includes != c.includes || overlaps != c.overlaps || e != api.OK || f != api.OK || g != api.OK {
			t.Errorf("%s and %s: %v, %v, %v", show(c.a), show(c.b), empty, includes, overlaps)
		}
	}
	// the answers do not depend on a normal class, which would be too long here
	a, b := choice(numbered("a", 60)...), choice(numbered("b", 60)...)
	if is, e := Overlap(all(a), all(b)); !is || e != api.OK {
		t.Errorf("Overlap of large classes: %v, %d", is, e)
	}
	if is, e := Empty(spread(32)); is || e != api.OK {
		t.Errorf("Empty of a large class: %v, %d", is, e)
	}
	if is, e := Includes(all(a), b); !is || e != api.OK {
		t.Errorf("Includes of large classes: %v, %d", is, e)
	}
}

func TestWitness(t *testing.T) { // P1.5
	for i, c := range []struct {
		c     api.Class
		avoid []api.Name
		want  api.Name
		e     api.Errno
	}{
		{space("a", name("a", "x")), nil, nm("a", "x1"), api.OK},
		{all(space("a")), nil, nm("u", "x"), api.OK},
		{name("a", "x"), []api.Name{nm("a", "x")}, api.Name{}, api.ErrNone},
		{none(), nil, api.Name{}, api.ErrNone},
		{all(), nil, nm("u", "x"), api.OK},
		{all(choice(space("a"), name("a", "x"))), nil, nm("u", "x"), api.OK},
		// mentioned names come first, also if they are mentioned in an Except alone
		{choice(name("b", "y"), name("a", "z"), space("")), nil, nm("a", "z"), api.OK},
		{all(choice(space("a"), name("b", "q"), space("b"))), nil, nm("u", "x"), api.OK},
		{space("a", all(name("a", "q"))), nil, nm("a", "q"), api.OK},
		// then the fresh names of mentioned spaces, ascending
		{all(name("c", "y")), nil, nm("c", "x"), api.OK},
		{choice(space("b"), space("a")), nil, nm("a", "x"), api.OK},
		{choice(space("b"), space("")), nil, nm("", "x"), api.OK},
		{choice(name("a", "x"), all(space("a"))), []api.Name{nm("a", "x")}, nm("u", "x"), api.OK},
		// a fresh name is neither mentioned nor to be avoided, in its own space
		{space("a", choice(name("a", "x"), name("a", "x2"), name("b", "x1"))), nil, nm("a", "x1"), api.OK},
		{space("a", name("a", "x")), []api.Name{nm("a", "x1"), nm("b", "x2")}, nm("a", "x2"), api.OK},
		{space("a"), []api.Name{nm("a", "x"), nm("a", "x"), {}, nm("a", "x1"), nm("a", long(300))}, nm("a", "x2"), api.OK},
		// the new space is not mentioned, but names of it may be among those to be avoided
		{all(space("u")), nil, nm("u1", "x"), api.OK},
		{all(choice(space("u"), space("u1"), space("u2"))), nil, nm("u3", "x"), api.OK},
		{all(), []api.Name{nm("u", "x"), nm("u", "x1")}, nm("u", "x2"), api.OK},
		{all(space("u")), []api.Name{nm("u1", "x")}, nm("u1", "x1"), api.OK},
		{choice(name("a", "x"), name("b", "y")), []api.Name{nm("a", "x")}, nm("b", "y"), api.OK},
		{choice(name("a", "x"), name("b", "y")), []api.Name{nm("b", "y"), nm("a", "x")}, api.Name{}, api.ErrNone},
	} {
		if n, e := Witness(c.c, c.avoid); n != c.want || e != c.e {
			t.Errorf("%d: Witness(%s, %v): %v, %d", i, show(c.c), c.avoid, n, e)
		}
	}
}

func TestCandidateNumbers(t *testing.T) { // P1.5
	avoid := []api.Name{nm("a", "x")}
	for i := range 11 {
		avoid = append(avoid, nm("a", "x"+strconv.Itoa(i+1)))
	}
	if n, e := Witness(space("a"), avoid); n != nm("a", "x12") || e != api.OK {
		t.Errorf("%v, %d", n, e)
	}
}

// cells writes cells as their witnesses with their In.
func cells(l []api.Cell) string {
	var b strings.Builder
	for _, c := range l {
		b.WriteString(c.Witness.Space + ":" + c.Witness.Local + "=")
		for _, in := range c.In {
			b.WriteByte("-+"[map[bool]int{true: 1}[in]])
		}
		b.WriteByte(' ')
	}
	return strings.TrimSpace(b.String())
}

func TestCells(t *testing.T) { // P1.6
	for i, c := range []struct {
		l    []api.Class
		want string
	}{
		{[]api.Class{name("a", "x"), space("a")}, "a:x=++ a:x1=-+ u:x=--"},
		{nil, "u:x="},
		{[]api.Class{}, "u:x="},
		{[]api.Class{all()}, "u:x=+"},
		{[]api.Class{none()}, "u:x=-"},
		{[]api.Class{all(), none(), all()}, "u:x=+-+"},
		{[]api.Class{name("b", "y"), name("a", "z")}, "a:z=-+ b:y=+- a:x=--"},
		{[]api.Class{name("a", "x"), name("a", "y")}, "a:x=+- a:y=-+ a:x1=--"},
		{[]api.Class{space("b"), space("a")}, "a:x=-+ b:x=+- u:x=--"},
		{[]api.Class{all(space("u"))}, "u:x=- u1:x=+"},
		{[]api.Class{choice(name("a", "x"), name("b", "x"))}, "a:x=+ a:x1=-"},
		{[]api.Class{space("a", name("a", "x"))}, "a:x=- a:x1=+"},
	} {
		l, e := Cells(c.l)
		if e != api.OK || cells(l) != c.want {
			t.Errorf("%d: %s, %d, not %s", i, cells(l), e, c.want)
		}
	}
}

func TestCellsErrors(t *testing.T) { // P1.6
	wrong, big := api.Class{}, nested(11)
	for i, c := range []struct {
		l    []api.Class
		want api.Errno
	}{
		{repeat(100, all()), api.OK},
		{repeat(101, all()), api.ErrLong},
		{repeat(101, wrong), api.ErrLong},
		{append(repeat(99, all()), wrong), api.ErrArg},
		{[]api.Class{wrong, big}, api.ErrArg},
		{[]api.Class{all(), big, wrong}, api.ErrLong},
	} {
		l, e := Cells(c.l)
		if e != c.want || (len(l) == 0) != (e != api.OK) {
			t.Errorf("%d: %d cells, %d, not %d", i, len(l), e, c.want)
		}
	}
}

func TestCellsMany(t *testing.T) { // P1.6
	var l []api.Class
	for i := range 100 {
		l = append(l, choice(numbered(string([]byte{'a', byte(i)}), 99)...))
	}
	found, e := Cells(l)
	if e != api.OK || len(found) != 101 {
		t.Errorf("%d cells, %d", len(found), e)
	}
}
