package regex

import (
	"cmp"
	"iter"
	"math"
	"slices"

	"gabarit/api"
)

// blocks are the longest ranges of characters: the numbers between them are none.
var blocks = [5]api.Range{{Low: 9, High: 10}, {Low: 13, High: 13}, {Low: 32, High: 55295}, {Low: 57344, High: 65533}, {Low: 65536, High: 1114111}}

// everything is the set of all characters.
func everything() []api.Range {
	l := blocks
	return l[:]
}

// unbroken reports whether the numbers of a range are characters, and there is one.
func unbroken(r api.Range) bool {
	for _, block := range blocks {
		if block.Low <= r.Low && r.Low <= r.High && r.High <= block.High {
			return true
		}
	}
	return false
}

func isSet(l []api.Range) bool {
	for i, r := range l {
		if !unbroken(r) || i > 0 && r.Low < l[i-1].High+2 {
			return false
		}
	}
	return true
}

// has reports whether a character is in a set.
func has(set []api.Range, c int32) bool {
	_, found := slices.BinarySearchFunc(set, c, func(r api.Range, c int32) int {
		switch {
		case r.High < c:
			return -1
		case r.Low > c:
			return 1
		}
		return 0
	})
	return found
}

// piece is a range between ends of two sets that are next to each other.
type piece struct {
	api.Range
	inA, inB bool
}

// pieces produces the ranges into which the ends of two sets divide the numbers, from the lowest end on.
func pieces(a, b []api.Range) iter.Seq[piece] {
	return func(yield func(piece) bool) {
		i, j := 0, 0
		for i < 2*len(a) || j < 2*len(b) {
			low := min(end(a, i), end(b, j))
			if end(a, i) == low {
				i++
			}
			if end(b, j) == low {
				j++
			}
			high := min(end(a, i), end(b, j)) - 1
			// Behind an odd number of ends a range has begun, and has not ended.
			if !yield(piece{api.Range{Low: low, High: high}, i%2 == 1, j%2 == 1}) {
				return
			}
		}
	}
}

// end returns the end i of a set: those of its range i/2 are its first number, and the first one behind it.
func end(set []api.Range, i int) int32 {
	switch {
	case i >= 2*len(set):
		return math.MaxInt32
	case i%2 == 0:
		return set[i/2].Low
	}
	return set[i/2].High + 1
}

// keeper says by the sets in which a character is whether it is to be kept.
type keeper func(inA, inB bool) bool

func either(inA, inB bool) bool    { return inA || inB }
func both(inA, inB bool) bool      { return inA && inB }
func firstOnly(inA, inB bool) bool { return inA && !inB }

// combined returns the characters of two sets that are to be kept, which keep does not want if they are in neither.
func combined(a, b []api.Range, keep keeper) ([]api.Range, api.Errno) {
	if !isSet(a) || !isSet(b) {
		return nil, api.ErrArg
	}
	return merged(a, b, keep), api.OK
}

func merged(a, b []api.Range, keep keeper) []api.Range {
	var l []api.Range
	for p := range pieces(a, b) {
		if keep(p.inA, p.inB) {
			l = joined(l, p.Range)
		}
	}
	return l
}

// joined appends a range to those that begin no higher; if it reaches or touches the last one, that becomes longer instead.
func joined(l []api.Range, r api.Range) []api.Range {
	if n := len(l); n > 0 && r.Low <= l[n-1].High+1 {
		l[n-1].High = max(l[n-1].High, r.High)
		return l
	}
	return append(l, r)
}

// setOf returns the set of the characters of ranges in any order, in which there may be numbers that are no characters.
func setOf(l []api.Range) []api.Range {
	slices.SortFunc(l, func(a, b api.Range) int { return cmp.Compare(a.Low, b.Low) })
	var numbers []api.Range
	for _, r := range l {
		numbers = joined(numbers, r)
	}
	return merged(numbers, everything(), both)
}
