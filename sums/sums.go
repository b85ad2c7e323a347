// Package sums is layer 5: checksums. See shared/doc/05-sums.md.
package sums

import "strings"

const (
	polynomial = 0xedb88320
	offset     = 860922984064492325
	prime      = 1099511628211
	hashMask   = 1<<62 - 1
	hexDigits  = "0123456789abcdef"
	hexLength  = 16
)

// Crc is specified in P5.1.
func Crc(b []byte) int {
	register := ^uint32(0)
	for _, c := range b {
		register ^= uint32(c)
		for range 8 {
			out := register & 1
			register >>= 1
			if out == 1 {
				register ^= polynomial
			}
		}
	}
	return int(^register)
}

// Hash is specified in P5.2.
func Hash(b []byte) int {
	return More(offset, b)
}

// More is specified in P5.2.
func More(h int, b []byte) int {
	u := uint64(h)
	for _, c := range b {
		u = (u ^ uint64(c)) * prime
	}
	// 2^62 divides 2^64, so that the remainder may be taken at the end.
	return int(u & hashMask)
}

// Hex is specified in P5.3.
func Hex(n int) string {
	var text [hexLength]byte
	u := uint64(n) & hashMask
	for i := hexLength - 1; i >= 0; i-- {
		text[i] = hexDigits[u&15]
		u >>= 4
	}
	return string(text[:])
}

// Unhex is specified in P5.3.
func Unhex(s string) (int, bool) {
	if len(s) != hexLength {
		return 0, false
	}
	var u uint64
	for i := range len(s) {
		digit := strings.IndexByte(hexDigits, s[i])
		if digit < 0 {
			return 0, false
		}
		u = u<<4 | uint64(digit)
	}
	if u > hashMask {
		return 0, false
	}
	return int(u), true
}
