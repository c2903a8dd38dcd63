// Package codes is layer 1: see shared/doc/01-codes.md.
package codes

import "unicode/utf8"

// Next is the rune that stands at a place, and of how many bytes it is; false: a byte that is of none, or nothing.
func Next(s string, at int) (r rune, n int, ok bool) {
	if at < 0 || at >= len(s) {
		return 0, 0, false
	}
	r, n = front(s[at:])
	// A range tells FFFD of a byte that is of none, too; the rune FFFD itself has three bytes.
	return r, n, r != utf8.RuneError || n > 1
}

// Back is the last rune of what stands ahead of a place.
func Back(s string, at int) (r rune, n int, ok bool) {
	if at <= 0 || at > len(s) {
		return 0, 0, false
	}
	// No rune has more bytes, and no rune's bytes hold another one's, so those ahead of these make no difference.
	tail := s[max(0, at-utf8.UTFMax):at]
	last := 0
	for i := range tail {
		last = i
	}
	return Next(tail, last)
}

// Starts is where runes stand, and bytes that are of none.
func Starts(s string) []int {
	var l []int
	for at := range s {
		l = append(l, at)
	}
	return l
}

// Put is a rune's bytes.
func Put(r rune) string {
	// The conversion alone would make FFFD of what is no rune.
	if !utf8.ValidRune(r) {
		return ""
	}
	return string(r)
}

// Valid tells whether all bytes are of runes.
func Valid(s string) bool {
	for at := range s {
		if _, _, ok := Next(s, at); !ok {
			return false
		}
	}
	return true
}

// Count is how many runes, and bytes that are of none, there are.
func Count(s string) int {
	n := 0
	for range s {
		n++
	}
	return n
}

// front is the first rune of a text that is not empty, and where the next one begins.
func front(s string) (r rune, n int) {
	for at, x := range s {
		if at > 0 {
			return r, at
		}
		r = x
	}
	return r, len(s)
}
