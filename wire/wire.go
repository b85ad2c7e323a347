// Package wire is layer 4: numbers and texts as bytes. See shared/doc/04-wire.md.
package wire

import (
	"slices"

	"langdoc/api"
)

// maxBytes is the number of bytes of the longest encoding of a number.
const maxBytes = 10

// PutInt is specified in P4.1.
func PutInt(b []byte, n int) []byte {
	return appendInt(slices.Clone(b), n)
}

// PutText is specified in P4.1.
func PutText(b []byte, s string) []byte {
	return appendList(slices.Clone(b), []byte(s), appendByte)
}

// PutInts is specified in P4.1.
func PutInts(b []byte, l []int) []byte {
	return appendList(slices.Clone(b), l, appendInt)
}

// Int is specified in P4.2.
func Int(b []byte, at int) (int, int, api.Errno) {
	if at < 0 || at > len(b) {
		return 0, 0, api.ErrRange
	}
	var u uint64
	for i := range maxBytes {
		if at+i == len(b) {
			return 0, 0, api.ErrShort
		}
		c := b[at+i]
		u |= uint64(c&0x7f) << (7 * i)
		if c >= 0x80 {
			continue
		}
		// A last byte of 0 could be left out; of the tenth byte, only one bit has room in the number.
		if c == 0 && i > 0 || c > 1 && i == maxBytes-1 {
			return 0, 0, api.ErrForm
		}
		return signed(u), at + i + 1, api.OK
	}
	return 0, 0, api.ErrForm
}

// TextAt is specified in P4.3.
func TextAt(b []byte, at int) (string, int, api.Errno) {
	n, from, err := length(b, at)
	if err != api.OK {
		return "", 0, err
	}
	if n > len(b)-from {
		return "", 0, api.ErrShort
	}
	return string(b[from : from+n]), from + n, api.OK
}

// Ints is specified in P4.3.
func Ints(b []byte, at int) ([]int, int, api.Errno) {
	n, next, err := length(b, at)
	if err != api.OK {
		return nil, 0, err
	}
	// The length may claim more numbers than there are bytes.
	l := make([]int, 0, min(n, len(b)-next))
	for range n {
		var value int
		value, next, err = Int(b, next)
		if err != api.OK {
			return nil, 0, err
		}
		l = append(l, value)
	}
	return l, next, api.OK
}

// length reads the length of a string or a list.
func length(b []byte, at int) (int, int, api.Errno) {
	n, next, err := Int(b, at)
	if err != api.OK {
		return 0, 0, err
	}
	if n < 0 {
		return 0, 0, api.ErrForm
	}
	return n, next, api.OK
}

// appendList writes a list: its length, and its elements as put writes them.
func appendList[E any](b []byte, l []E, put func([]byte, E) []byte) []byte {
	b = appendInt(b, len(l))
	for _, e := range l {
		b = put(b, e)
	}
	return b
}

func appendInt(b []byte, n int) []byte {
	u := unsigned(n)
	for u >= 0x80 {
		b = append(b, byte(u)|0x80)
		u >>= 7
	}
	return append(b, byte(u))
}

func appendByte(b []byte, c byte) []byte {
	return append(b, c)
}

// unsigned returns 2n, or -2n - 1 for a negative number, whose bits are those of 2n inverted.
func unsigned(n int) uint64 {
	if n < 0 {
		return ^(uint64(n) << 1)
	}
	return uint64(n) << 1
}

// signed returns the number of which u is unsigned.
func signed(u uint64) int {
	if u&1 == 1 {
		return int(^(u >> 1))
	}
	return int(u >> 1)
}
