package regex

import "gabarit/api"

const maxRanges = 200 // of a set of an expression

// small counts the expressions of any x, and gives up at the first one too many: lists of Args may be within themselves.
func small(x api.Regex) bool {
	left := api.MaxRegex
	var fits func(x *api.Regex, deep int) bool
	fits = func(x *api.Regex, deep int) bool {
		left--
		if left < 0 || deep > api.MaxNest || len(x.Set) > maxRanges {
			return false
		}
		for i := range x.Args {
			if !fits(&x.Args[i], deep+1) {
				return false
			}
		}
		return true
	}
	return fits(&x, 1)
}

// valid reports whether a small expression is as the table of the kinds says.
func valid(x api.Regex) bool {
	if x.Kind != api.RxSet && len(x.Set) > 0 || x.Kind != api.RxTimes && (x.Low != 0 || x.High != 0) {
		return false
	}
	for _, arg := range x.Args {
		if !valid(arg) {
			return false
		}
	}
	switch x.Kind {
	case api.RxEmpty:
		return len(x.Args) == 0
	case api.RxSet:
		return len(x.Args) == 0 && len(x.Set) > 0 && isSet(x.Set)
	case api.RxSeq, api.RxAlt:
		return len(x.Args) > 1
	case api.RxTimes:
		return len(x.Args) == 1 && areTimes(x.Low, x.High)
	}
	return false
}

// areTimes reports whether an expression may stand from low to high times.
func areTimes(low, high int) bool {
	if low < 0 || low > api.MaxTimes {
		return false
	}
	return high == endless || max(low, 1) <= high && high <= api.MaxTimes
}
