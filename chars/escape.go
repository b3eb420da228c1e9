package chars

import (
	"strconv"
	"strings"
)

// maxEscape is how many digits the number of an escape has at most.
const maxEscape = 20

// namedEscapes are the characters of the escapes without a number, by what stands between & and ;.
func namedEscapes() map[string]int32 {
	return map[string]int32{"lt": '<', "gt": '>', "amp": '&', "quot": '"', "apos": '\''}
}

// escapesOf are the escapes of the characters that must not stand as themselves: in content, or in the value of an attribute.
func escapesOf(attribute bool) map[int32]string {
	escapes := map[int32]string{'<': "&lt;", '>': "&gt;", '&': "&amp;", 13: "&#13;"}
	if attribute {
		escapes['"'], escapes[9], escapes[10] = "&quot;", "&#9;", "&#10;"
	}
	return escapes
}

// escaped returns the character of an escape by what stands between its & and its ;.
func escaped(word string, named map[string]int32) int32 {
	if c, ok := named[word]; ok {
		return c
	}
	if digits, ok := strings.CutPrefix(word, "#x"); ok {
		return numbered(digits, 16)
	}
	if digits, ok := strings.CutPrefix(word, "#"); ok {
		return numbered(digits, 10)
	}
	return noChar
}

// numbered returns the character with a number.
func numbered(digits string, base int) int32 {
	if len(digits) > maxEscape {
		return noChar
	}
	n, err := strconv.ParseUint(digits, base, 31) // 31 bits, so that an int32 holds it
	if err != nil || !Valid(int32(n)) {
		return noChar
	}
	return int32(n)
}
