// Package octet is layer 1, integers and strings as bytes: see shared/doc/01-octet.md.
package octet

import (
	"slices"

	"sexton/api"
)

// longest is the most that a string's length byte can tell.
const longest = 255

// bounds holds for each width the least number that is too great for it; a width whose bound is 0 does not exist.
var bounds = [...]int{1: 1 << 8, 2: 1 << 16, 4: 1 << 32, 6: 1 << 48}

// bound returns 0 for a width that does not exist, so that no number is below it.
func bound(width int) int {
	if width < 0 || width >= len(bounds) {
		return 0
	}
	return bounds[width]
}

// Fits reports whether the width exists and the number fits it: P1.1.
func Fits(width, n int) bool { return 0 <= n && n < bound(width) }

// Put returns the encoding of a number, or ErrArg: P1.1.
func Put(width, n int) ([]byte, api.Errno) {
	if !Fits(width, n) {
		return nil, api.ErrArg
	}
	b := make([]byte, width)
	for i := range width {
		b[i] = byte(n >> (8 * i))
	}
	return b, api.OK
}

// Get returns the number whose encoding begins at the offset, and the offset after it, or ErrArg or ErrShort: P1.2.
func Get(b []byte, at, width int) (n, next int, e api.Errno) {
	if bound(width) == 0 || at < 0 || at > len(b) {
		return 0, 0, api.ErrArg
	}
	// A difference, since a sum could overflow.
	if len(b)-at < width {
		return 0, 0, api.ErrShort
	}
	for i := range width {
		n |= int(b[at+i]) << (8 * i)
	}
	return n, at + width, api.OK
}

// Text returns the encoding of a string, or ErrLong: P1.3.
func Text(s string) ([]byte, api.Errno) {
	if len(s) > longest {
		return nil, api.ErrLong
	}
	return Join([]byte{byte(len(s))}, []byte(s)), api.OK
}

// Read returns the string whose encoding begins at the offset, and the offset after it, or ErrArg or ErrShort: P1.3.
func Read(b []byte, at int) (s string, next int, e api.Errno) {
	size, from, e := Get(b, at, 1)
	if e != api.OK {
		return "", 0, e
	}
	if len(b)-from < size {
		return "", 0, api.ErrShort
	}
	next = from + size
	return string(b[from:next]), next, api.OK
}

// Join returns the concatenation of its arguments, in memory of its own even if there is only one: P1.4.
func Join(l ...[]byte) []byte { return slices.Concat(l...) }
