// Package utf is layer 1: runes of any bytes, lower case, and what is a part of a word. See shared/doc/01-utf.md.
package utf

import "unicode/utf8"

// Decode is the rune at a place, and how many bytes it has; 0, 0: there is no such place.
func Decode(s string, at int) (rune, size int) {
	if at < 0 || at >= len(s) {
		return 0, 0
	}
	r, n := utf8.DecodeRuneInString(s[at:])
	return int(r), n
}

// Runes are a text's, from its first byte on.
func Runes(s string) []int {
	l := make([]int, 0, utf8.RuneCountInString(s))
	for _, r := range s {
		l = append(l, int(r))
	}
	return l
}

// Encode are runes' bytes, one behind the other; such as have none are told as U+FFFD.
func Encode(runes ...int) string {
	b := make([]byte, 0, len(runes))
	for _, r := range runes {
		b = utf8.AppendRune(b, encodable(r))
	}
	return string(b)
}

// encodable is a number as a rune of the language, whose AppendRune tells U+FFFD for such as have no bytes. The whole number is held against the bounds: cut to 32 bits first, one far outside would become some other rune.
func encodable(r int) rune {
	if r < 0 || r > utf8.MaxRune {
		return utf8.RuneError
	}
	return rune(r)
}

// Lower is the lower one of a rune.
func Lower(r int) int {
	for _, x := range [...]struct{ from, to, more int }{
		{65, 90, 32},
		{192, 214, 32},
		{216, 222, 32},
		{913, 929, 32},
		{931, 939, 32},
		{1024, 1039, 80},
		{1040, 1071, 32},
	} {
		if x.from <= r && r <= x.to {
			return r + x.more
		}
	}
	return r
}

// IsWord tells whether a rune is a part of a word.
func IsWord(r int) bool {
	for _, x := range [...]struct{ from, to int }{
		{48, 57},
		{65, 90},
		{97, 122},
		{192, 214},
		{216, 246},
		{248, 255},
		{913, 929},
		{931, 974},
		{1024, 1119},
	} {
		if x.from <= r && r <= x.to {
			return true
		}
	}
	return false
}

// Fold is a text in lower case; a byte of it that is no rune is told as U+FFFD.
func Fold(s string) string {
	l := Runes(s)
	for i, r := range l {
		l[i] = Lower(r)
	}
	return Encode(l...)
}

// Valid tells whether Encode of a text's Runes is the text: whether each of its bytes is of a rune.
func Valid(s string) bool {
	return utf8.ValidString(s)
}
