package chars

import (
	"iter"
	"unicode/utf8"
)

// noChar stands where a character is missing.
const noChar int32 = -1

// Each number is of one kind. First characters are inner ones as well; they have no second kind.
const (
	kindNone = iota // no character
	kindPlain
	kindBlank
	kindInner
	kindFirst
)

// ranges are the lowest and the highest number, and their kind. Numbers between them are no characters.
var ranges = [23][3]int32{
	{9, 10, kindBlank},
	{13, 13, kindBlank},
	{32, 32, kindBlank},
	{33, 44, kindPlain},
	{'-', '.', kindInner},
	{47, 47, kindPlain},
	{'0', '9', kindInner},
	{58, 64, kindPlain},
	{'A', 'Z', kindFirst},
	{91, 94, kindPlain},
	{'_', '_', kindFirst},
	{96, 96, kindPlain},
	{'a', 'z', kindFirst},
	{123, 182, kindPlain},
	{183, 183, kindInner},
	{184, 191, kindPlain},
	{192, 214, kindFirst},
	{215, 215, kindPlain},
	{216, 246, kindFirst},
	{247, 247, kindPlain},
	{248, 55295, kindFirst},
	{57344, 65533, kindFirst},
	{65536, 1114111, kindFirst},
}

func kind(c int32) int32 {
	for _, r := range ranges {
		if r[0] <= c && c <= r[1] {
			return r[2]
		}
	}
	return kindNone
}

// characters produces the characters of a string, with the bytes at which they begin. Where no bytes of a character stand, it produces noChar, and ends.
func characters(s string) iter.Seq2[int, int32] {
	return func(yield func(int, int32) bool) {
		for at := 0; at < len(s); {
			c, size := utf8.DecodeRuneInString(s[at:])
			// The character 65533 is what the library returns for wrong bytes, too; its own are three.
			if c == utf8.RuneError && size == 1 || !Valid(c) {
				yield(at, noChar)
				return
			}
			if !yield(at, c) {
				return
			}
			at += size
		}
	}
}

// firstWrong returns the first byte at which no bytes of a character stand, and whether there is one.
func firstWrong(s string) (int, bool) {
	for at, c := range characters(s) {
		if c == noChar {
			return at, true
		}
	}
	return 0, false
}

func spaceForBlank(c int32) int32 {
	if Blank(c) {
		return ' '
	}
	return c
}
