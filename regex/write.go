package regex

import (
	"strconv"
	"strings"

	"gabarit/api"
)

// written returns the canonical text of a valid expression.
func written(x api.Regex) string {
	switch x.Kind {
	case api.RxSet:
		return setText(x.Set)
	case api.RxSeq:
		return argsText(x, "")
	case api.RxAlt:
		return argsText(x, "|")
	case api.RxTimes:
		return argsText(x, "") + timesText(x.Low, x.High)
	}
	return ""
}

func argsText(x api.Regex, between string) string {
	var l []string
	for _, arg := range x.Args {
		text := written(arg)
		if firmness(arg.Kind) <= firmness(x.Kind) {
			text = "(" + text + ")"
		}
		l = append(l, text)
	}
	return strings.Join(l, between)
}

// firmness orders the kinds: an Arg that is not firmer than what it is in would be taken apart without parentheses.
func firmness(kind int) int {
	switch kind {
	case api.RxAlt:
		return 1
	case api.RxSeq, api.RxEmpty:
		return 2
	case api.RxTimes:
		return 3
	}
	return 4
}

func timesText(low, high int) string {
	switch {
	case low == 0 && high == 1:
		return "?"
	case low == 0 && high == endless:
		return "*"
	case low == 1 && high == endless:
		return "+"
	case high == endless:
		return "{" + strconv.Itoa(low) + ",}"
	case low == high:
		return "{" + strconv.Itoa(low) + "}"
	}
	return "{" + strconv.Itoa(low) + "," + strconv.Itoa(high) + "}"
}

func setText(set []api.Range) string {
	if len(set) == 1 && set[0].Low == set[0].High {
		return charText(set[0].Low, unitSigns)
	}
	var b strings.Builder
	for _, r := range set {
		b.WriteString(charText(r.Low, setSigns))
		if r.Low < r.High {
			b.WriteString("-" + charText(r.High, setSigns))
		}
	}
	return "[" + b.String() + "]"
}

// charText returns a character, with a \ if it is one of the signs, or as an escape with a letter.
func charText(c int32, signs string) string {
	if i := strings.IndexRune(lettered, c); i >= 0 {
		return "\\" + letters[i:i+1]
	}
	if strings.ContainsRune(signs, c) {
		return "\\" + string(c)
	}
	return string(c)
}
