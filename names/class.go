package names

import (
	"cmp"
	"slices"
	"strings"

	"gabarit/api"
)

// maxDepth is how deep classes may be nested.
const maxDepth = 10

func compare(a, b api.Name) int {
	return cmp.Or(strings.Compare(a.Space, b.Space), strings.Compare(a.Local, b.Local))
}

func validName(n api.Name) bool {
	return n.Local != "" && len(n.Local) <= api.MaxWord && len(n.Space) <= api.MaxWord
}

// walk hands a class and all classes in it to visit, with their depth, until visit returns false.
func walk(c api.Class, visit func(c api.Class, depth int) bool) {
	var enter func(c api.Class, depth int) bool
	enter = func(c api.Class, depth int) bool {
		if !visit(c, depth) {
			return false
		}
		inner := func(d api.Class) bool { return !enter(d, depth+1) }
		return !slices.ContainsFunc(c.Except, inner) && !slices.ContainsFunc(c.Args, inner)
	}
	enter(c, 1)
}

// wellFormed looks at the class alone, not at the classes in it.
func wellFormed(c api.Class) bool {
	named, spaced, args := c.Name != api.Name{}, c.Space != "", len(c.Args) > 0
	switch c.Kind {
	case api.ClName:
		return validName(c.Name) && !spaced && len(c.Except) == 0 && !args
	case api.ClSpace:
		return len(c.Space) <= api.MaxWord && !named && len(c.Except) <= 1 && !args
	case api.ClAny:
		return !named && !spaced && len(c.Except) <= 1 && !args
	case api.ClChoice:
		return args && !named && !spaced && len(c.Except) == 0
	}
	return false
}

// checkAll returns the error of the first class that has one.
func checkAll(l []api.Class) api.Errno {
	for _, c := range l {
		if e := Check(c); e != api.OK {
			return e
		}
	}
	return api.OK
}

// has takes a well-formed class.
func has(c api.Class, n api.Name) bool {
	var in func(c api.Class) bool
	in = func(c api.Class) bool {
		switch c.Kind {
		case api.ClName:
			return c.Name == n
		case api.ClSpace:
			return c.Space == n.Space && !slices.ContainsFunc(c.Except, in)
		case api.ClAny:
			return !slices.ContainsFunc(c.Except, in)
		}
		return slices.ContainsFunc(c.Args, in)
	}
	return in(c)
}

// inEach says of each class whether the name is in it.
func inEach(l []api.Class, n api.Name) []bool {
	in := make([]bool, len(l))
	for i, c := range l {
		in[i] = has(c, n)
	}
	return in
}

// key writes bools as a string, because a slice cannot be the key of a map.
func key(in []bool) string {
	bits := make([]byte, len(in))
	for i, is := range in {
		if is {
			bits[i] = 1
		}
	}
	return string(bits)
}

// These say whether a name is in a set that is made of two, by whether it is in the first and in the second one.
func either(x, y bool) bool     { return x || y }
func both(x, y bool) bool       { return x && y }
func onlyFirst(x, y bool) bool  { return x && !y }
func onlySecond(x, y bool) bool { return y && !x }

// combine returns the normal class of the set that op makes of those of a and b.
func combine(a, b api.Class, op func(x, y bool) bool) (api.Class, api.Errno) {
	l := []api.Class{a, b}
	if e := checkAll(l); e != api.OK {
		return api.Class{}, e
	}
	c := normal(mentioned(l, nil), func(n api.Name) bool { return op(has(a, n), has(b, n)) })
	if e := Check(c); e != api.OK {
		return api.Class{}, e
	}
	return c, api.OK
}

// some reports whether any name is in the set that op makes of those of a and b. The candidates suffice: a set of which they are no part is empty.
func some(a, b api.Class, op func(x, y bool) bool) (bool, api.Errno) {
	l := []api.Class{a, b}
	if e := checkAll(l); e != api.OK {
		return false, e
	}
	for n := range mentioned(l, nil).candidates() {
		if op(has(a, n), has(b, n)) {
			return true, api.OK
		}
	}
	return false, api.OK
}
