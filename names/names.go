// Package names computes with names in spaces, and with classes, which describe sets of them: see shared/doc/01-names.md.
package names

import (
	"slices"

	"gabarit/api"
)

// Check returns ErrLong unless the class is small, and then ErrArg unless it is well-formed.
func Check(c api.Class) api.Errno {
	count, small, formed := 0, true, true
	walk(c, func(d api.Class, depth int) bool {
		count++
		small = count <= api.MaxClass && depth <= maxDepth
		formed = formed && wellFormed(d)
		return small
	})
	if !small {
		return api.ErrLong
	}
	if !formed {
		return api.ErrArg
	}
	return api.OK
}

// Has reports whether a name is in the set of a class.
func Has(c api.Class, n api.Name) (bool, api.Errno) {
	if e := Check(c); e != api.OK {
		return false, e
	}
	if !validName(n) {
		return false, api.ErrArg
	}
	return has(c, n), api.OK
}

// Normal returns the normal class of the set of a class.
func Normal(c api.Class) (api.Class, api.Errno) { return combine(c, c, both) }

// Join returns the normal class of the union.
func Join(a, b api.Class) (api.Class, api.Errno) { return combine(a, b, either) }

// Meet returns the normal class of the intersection.
func Meet(a, b api.Class) (api.Class, api.Errno) { return combine(a, b, both) }

// Minus returns the normal class of the difference.
func Minus(a, b api.Class) (api.Class, api.Errno) { return combine(a, b, onlyFirst) }

// Empty reports whether the set of a class is empty.
func Empty(c api.Class) (bool, api.Errno) {
	found, e := some(c, c, both)
	return e == api.OK && !found, e
}

// Includes reports whether the set of b is contained in that of a.
func Includes(a, b api.Class) (bool, api.Errno) {
	found, e := some(a, b, onlySecond)
	return e == api.OK && !found, e
}

// Overlap reports whether the sets of both classes have a name in common.
func Overlap(a, b api.Class) (bool, api.Errno) { return some(a, b, both) }

// Witness returns the first candidate in the set of a class that is not to be avoided.
func Witness(c api.Class, avoid []api.Name) (api.Name, api.Errno) {
	if e := Check(c); e != api.OK {
		return api.Name{}, e
	}
	for n := range mentioned([]api.Class{c}, avoid).candidates() {
		if has(c, n) && !slices.Contains(avoid, n) {
			return n, api.OK
		}
	}
	return api.Name{}, api.ErrNone
}

// Cells divides all names by the classes of a list that they are in.
func Cells(l []api.Class) ([]api.Cell, api.Errno) {
	if len(l) > api.MaxClass {
		return nil, api.ErrLong
	}
	if e := checkAll(l); e != api.OK {
		return nil, e
	}
	var cells []api.Cell
	seen := map[string]bool{}
	for n := range mentioned(l, nil).candidates() {
		in := inEach(l, n)
		if k := key(in); !seen[k] {
			seen[k] = true
			cells = append(cells, api.Cell{Witness: n, In: in})
		}
	}
	return cells, api.OK
}

// Less reports whether a comes before b.
func Less(a, b api.Name) bool { return compare(a, b) < 0 }
