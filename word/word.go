// Package word has fields of bytes, the highest byte first.
package word

import (
	"strings"

	"stevedore/api"
)

// widest is how many bytes the greatest number has.
const widest = 8

// number is any kind that a field's number is answered as.
type number interface {
	uint8 | uint16 | uint32 | uint64
}

// Byte is the number of the field of one byte at a place.
func Byte(s string, at int) (uint8, api.Errno) { return read[uint8](s, at, 1) }

// Two is the number of the field of two bytes at a place.
func Two(s string, at int) (uint16, api.Errno) { return read[uint16](s, at, 2) }

// Four is the number of the field of four bytes at a place.
func Four(s string, at int) (uint32, api.Errno) { return read[uint32](s, at, 4) }

// Six is the number of the field of six bytes at a place.
func Six(s string, at int) (uint64, api.Errno) { return read[uint64](s, at, 6) }

// Text is the field of n bytes at a place.
func Text(s string, at, n int) (string, api.Errno) {
	if e := check(s, at, n); e != api.OK {
		return "", e
	}
	// A copy, so that a short field does not keep a long text in memory.
	return strings.Clone(s[at : at+n]), api.OK
}

// Rest is all of a text from a place on.
func Rest(s string, at int) (string, api.Errno) {
	return Text(s, at, max(len(s)-at, 0))
}

// Of is the n lowest bytes of a number: none if n is below 0, all 8 if it is above.
func Of(x uint64, n int) string {
	b := spread(x)
	return string(b[widest-min(max(n, 0), widest):])
}

// Set is s with text in place of what stood there.
func Set(s string, at int, text string) (string, api.Errno) {
	if e := check(s, at, len(text)); e != api.OK {
		return "", e
	}
	b := []byte(s)
	copy(b[at:], text)
	return string(b), api.OK
}

// check tells what is wrong with a field of n bytes at a place. A place behind the end is too far even for no bytes: what is set there could not be read.
func check(s string, at, n int) api.Errno {
	if at < 0 || n < 0 {
		return api.ErrArg
	}
	// Not at+n, which goes around for great numbers.
	if len(s)-at < n {
		return api.ErrShort
	}
	return api.OK
}

// read is the number of the field of n bytes at a place, as the kind that is asked for.
func read[T number](s string, at, n int) (T, api.Errno) {
	if e := check(s, at, n); e != api.OK {
		return 0, e
	}
	var b [widest]byte
	copy(b[widest-n:], s[at:at+n])
	return T(joined(b)), api.OK
}

// spread is a number's bytes, the highest first.
func spread(x uint64) [widest]byte {
	var b [widest]byte
	for i := range b {
		b[widest-1-i] = byte(x >> (8 * i))
	}
	return b
}

// joined is the number of bytes, the highest first.
func joined(b [widest]byte) uint64 {
	var x uint64
	for _, c := range b {
		x = x<<8 | uint64(c)
	}
	return x
}
