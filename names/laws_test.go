package names

import (
	"slices"
	"testing"

	"gabarit/api"
)

// samples are classes of all shapes.
func samples(n int) []api.Class {
	d := dice(1)
	l := []api.Class{all(), none()}
	for len(l) < n {
		if c := d.made(4); Check(c) == api.OK {
			l = append(l, c)
		}
	}
	return l
}

func TestHasAgrees(t *testing.T) { // P1.2
	for _, c := range samples(500) {
		for _, n := range universe() {
			if is, e := Has(c, n); is != contains(c, n) || e != api.OK {
				t.Fatalf("Has(%s, %v): %v, %d", show(c), n, is, e)
			}
		}
	}
}

func TestNormalAgrees(t *testing.T) { // P1.3, P1.7
	of := map[string]api.Class{} // the normal class of each set
	with := map[string]string{}  // the set of each normal class
	for _, c := range samples(3000) {
		n, e := Normal(c)
		if e != api.OK || members(n) != members(c) {
			t.Fatalf("Normal(%s): %s, %d", show(c), show(n), e)
		}
		if again, e := Normal(n); e != api.OK || !same(again, n) {
			t.Fatalf("Normal(%s): %s, %d", show(n), show(again), e)
		}
		if before, ok := of[members(c)]; ok && !same(before, n) {
			t.Fatalf("%s and %s for one set", show(before), show(n))
		}
		if before, ok := with[show(n)]; ok && before != members(c) {
			t.Fatalf("%s for two sets", show(n))
		}
		of[members(c)], with[show(n)] = n, members(c)
	}
	if len(of) < 100 || len(of) != len(with) {
		t.Errorf("%d sets, %d normal classes", len(of), len(with))
	}
}

func TestOperationsAgree(t *testing.T) { // P1.8
	l := samples(120)
	for _, a := range l {
		for _, b := range l[:60] {
			join, e := Join(a, b)
			meet, f := Meet(a, b)
			minus, g := Minus(a, b)
			if e != api.OK || f != api.OK || g != api.OK {
				t.Fatalf("%s and %s: %d, %d, %d", show(a), show(b), e, f, g)
			}
			for _, n := range universe() {
				x, y := contains(a, n), contains(b, n)
				if contains(join, n) != (x || y) || contains(meet, n) != (x && y) || contains(minus, n) != (x && !y) {
					t.Fatalf("%s and %s, %v: %s, %s, %s", show(a), show(b), n, show(join), show(meet), show(minus))
				}
			}
			asksAgree(t, a, b, meet, minus)
		}
	}
}

func asksAgree(t *testing.T, a, b, meet, minus api.Class) {
	overlaps, _ := Overlap(a, b)
	includes, _ := Includes(b, a)
	noMeet, _ := Empty(meet)
	noMinus, _ := Empty(minus)
	if overlaps == noMeet || overlaps != (members(meet) != "") {
		t.Fatalf("Overlap(%s, %s): %v", show(a), show(b), overlaps)
	}
	if includes != noMinus || includes != (members(minus) == "") {
		t.Fatalf("Includes(%s, %s): %v", show(b), show(a), includes)
	}
}

// listed is the candidates of classes, written apart from the program.
func listed(l []api.Class, avoid []api.Name) []api.Name {
	var names []api.Name
	var spaces []string
	var look func(c api.Class)
	look = func(c api.Class) {
		if c.Kind == api.ClName {
			names, spaces = append(names, c.Name), append(spaces, c.Name.Space)
		}
		if c.Kind == api.ClSpace {
			spaces = append(spaces, c.Space)
		}
		for _, x := range append(slices.Clone(c.Except), c.Args...) {
			look(x)
		}
	}
	for _, c := range l {
		look(c)
	}
	slices.SortFunc(names, func(a, b api.Name) int {
		if a.Space < b.Space || a.Space == b.Space && a.Local < b.Local {
			return -1
		}
		return 1
	})
	slices.Sort(spaces)
	names, spaces = slices.Compact(names), slices.Compact(spaces)
	mentioned := slices.Clone(names)
	for _, s := range []string{"u", "u1"} {
		if !slices.Contains(spaces, s) {
			spaces = append(spaces, s)
			break
		}
	}
	for _, s := range spaces {
		for _, local := range []string{"x", "x1", "x2", "x3", "x4"} {
			if n := nm(s, local); !slices.Contains(mentioned, n) && !slices.Contains(avoid, n) {
				names = append(names, n)
				break
			}
		}
	}
	return names
}

func TestWitnessAgrees(t *testing.T) { // P1.5, P1.8
	for i, c := range samples(1000) {
		avoid := [][]api.Name{nil, {nm("u", "x")}, {nm("a", "x"), nm("b", "x1"), nm("u1", "x")}, {nm("a", "y"), nm("", "x")}}[i%4]
		want, e := api.Name{}, api.ErrNone
		for _, n := range listed([]api.Class{c}, avoid) {
			if contains(c, n) && !slices.Contains(avoid, n) {
				want, e = n, api.OK
				break
			}
		}
		if n, f := Witness(c, avoid); n != want || f != e {
			t.Fatalf("Witness(%s, %v): %v, %d, not %v", show(c), avoid, n, f, want)
		}
		if empty, _ := Empty(c); empty != (members(c) == "") {
			t.Fatalf("Empty(%s): %v", show(c), empty)
		}
	}
}

func TestCellsAgree(t *testing.T) { // P1.6, P1.7
	l := samples(600)
	for i := 0; i+3 <= len(l); i += 3 {
		classes := l[i : i+3]
		in := func(n api.Name) string {
			var s []byte
			for _, c := range classes {
				s = append(s, "-+"[map[bool]int{true: 1}[contains(c, n)]])
			}
			return string(s)
		}
		var want []api.Cell
		of := map[string]bool{}
		for _, n := range listed(classes, nil) {
			if k := in(n); !of[k] {
				of[k] = true
				want = append(want, api.Cell{Witness: n, In: []bool{k[0] == '+', k[1] == '+', k[2] == '+'}})
			}
		}
		got, e := Cells(classes)
		if e != api.OK || cells(got) != cells(want) {
			t.Fatalf("%s, %d, not %s", cells(got), e, cells(want))
		}
		for _, n := range universe() {
			if !of[in(n)] {
				t.Fatalf("no cell for %v", n)
			}
		}
	}
}

// useAll calls every function.
func useAll(a, b api.Class, avoid []api.Name) {
	Check(a)
	Has(a, nm("a", "x"))
	Normal(a)
	Join(a, b)
	Meet(a, b)
	Minus(a, b)
	Empty(a)
	Includes(a, b)
	Overlap(a, b)
	Witness(a, avoid)
	Cells([]api.Class{a, b})
}

func TestArgumentsStay(t *testing.T) { // R3
	avoid := []api.Name{nm("u", "x"), nm("b", "z"), nm("a", "x")}
	kept := slices.Clone(avoid)
	l := samples(200)
	for i, a := range l {
		b := l[len(l)-1-i]
		x, y := clone(a), clone(b)
		useAll(a, b, avoid)
		if !same(a, x) || !same(b, y) || !slices.Equal(avoid, kept) {
			t.Fatalf("%s and %s have changed", show(x), show(y))
		}
	}
}

// spoil overwrites all the memory of a class.
func spoil(c *api.Class) {
	for i := range c.Except {
		spoil(&c.Except[i])
	}
	for i := range c.Args {
		spoil(&c.Args[i])
	}
	*c = api.Class{Kind: 7}
}

func TestResultsAreNew(t *testing.T) { // R3
	make1 := func() api.Class { return choice(name("a", "x"), space("b", choice(name("b", "x"), name("b", "y")))) }
	for i, f := range []func(c api.Class) (api.Class, api.Errno){
		Normal,
		func(c api.Class) (api.Class, api.Errno) { return Join(c, c) },
		func(c api.Class) (api.Class, api.Errno) { return Meet(c, all()) },
		func(c api.Class) (api.Class, api.Errno) { return Minus(c, none()) },
	} {
		c := make1()
		x, _ := f(c)
		spoil(&c)
		if !same(x, make1()) {
			t.Errorf("%d: the result has changed with the argument: %s", i, show(x))
		}
		c = make1()
		x, _ = f(c)
		spoil(&x)
		if !same(c, make1()) {
			t.Errorf("%d: the argument has changed with the result: %s", i, show(c))
		}
	}
	l, _ := Cells([]api.Class{name("a", "x"), space("a")})
	l[0].In[0], l[0].In[1] = false, false
	if again, _ := Cells([]api.Class{name("a", "x"), space("a")}); cells(again) != "a:x=++ a:x1=-+ u:x=--" || !l[1].In[1] {
		t.Error("cells share memory")
	}
}

func TestEmptyIsNil(t *testing.T) { // R4
	empty := func(c api.Class) api.Class {
		c.Except, c.Args = []api.Class{}, []api.Class{}
		return c
	}
	for _, c := range []api.Class{all(), space("a"), name("a", "x")} {
		x, e := Normal(c)
		y, f := Normal(empty(c))
		if e != api.OK || f != api.OK || !same(x, y) {
			t.Errorf("%s: %s, %s", show(c), show(x), show(y))
		}
		n, _ := Witness(c, nil)
		m, _ := Witness(empty(c), []api.Name{})
		if n != m {
			t.Errorf("%s: %v, %v", show(c), n, m)
		}
	}
}

func TestNothingPanics(t *testing.T) { // R1
	odd := []api.Class{{}, {Kind: -5}, endless(), {Kind: 9, Except: []api.Class{{}, {}}}, choice(), nested(40), choice(repeat(1000, api.Class{})...), name("", "\xff\x00"), space("\xff"), all()}
	for _, a := range odd {
		for _, b := range odd {
			useAll(a, b, []api.Name{{}, nm("\xff", long(1000))})
		}
		Has(a, api.Name{})
	}
	Cells(repeat(5000, endless()))
	Less(api.Name{}, nm(long(5000), ""))
}

func TestAgainTheSame(t *testing.T) { // R6
	for _, c := range samples(200) {
		x, _ := Normal(c)
		n, _ := Witness(c, nil)
		for range 5 {
			y, _ := Normal(c)
			if m, _ := Witness(c, nil); m != n || !same(x, y) {
				t.Fatalf("%s: %v, %v", show(c), n, m)
			}
		}
	}
}
