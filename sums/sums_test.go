package sums_test

import (
	"fmt"
	"hash/crc32"
	"math"
	"math/big"
	"strings"
	"testing"

	"langdoc/sums"
)

// sample returns bytes of which none follows another by a simple rule.
func sample(length int) []byte {
	b := make([]byte, length)
	x := uint32(2463534242)
	for i := range b {
		x ^= x << 13
		x ^= x >> 17
		x ^= x << 5
		b[i] = byte(x)
	}
	return b
}

// P5.1
func TestCrc(t *testing.T) {
	for s, want := range map[string]int{"": 0, "\x00": 3523407757, "a": 3904355907, "\xff": 4278190080, "123456789": 3421780262} {
		if got := sums.Crc([]byte(s)); got != want {
			t.Errorf("Crc(%q) = %d, want %d", s, got, want)
		}
	}
	for c := range 256 {
		for _, b := range [][]byte{{byte(c)}, {byte(c), 0}, {0, byte(c)}, {byte(c), 0xff, byte(c)}} {
			if got := sums.Crc(b); got != int(crc32.ChecksumIEEE(b)) {
				t.Errorf("Crc(%x) = %d", b, got)
			}
		}
	}
	long := sample(100000)
	for length := 0; length <= len(long); length = length*3 + 1 {
		if got := sums.Crc(long[:length]); got != int(crc32.ChecksumIEEE(long[:length])) {
			t.Errorf("Crc of %d bytes = %d", length, got)
		}
	}
}

// more returns the hash with the bytes included, from its definition.
func more(h int, b []byte) int {
	modulus := new(big.Int).Lsh(big.NewInt(1), 62)
	hash := new(big.Int).Mod(big.NewInt(int64(h)), modulus)
	for _, c := range b {
		low := new(big.Int).Mod(hash, big.NewInt(256))
		changed := low.Int64() ^ int64(c)
		hash.Sub(hash, low).Add(hash, big.NewInt(changed))
		hash.Mul(hash, big.NewInt(1099511628211)).Mod(hash, modulus)
	}
	return int(hash.Int64())
}

var starts = []int{0, 1, -1, 255, 256, 1 << 61, 1 << 62, 1<<62 - 1, 1<<62 + 5, -(1 << 62), -(1 << 62) - 1, math.MaxInt, math.MinInt, math.MinInt + 1, 860922984064492325}

// P5.2
func TestHashAndMore(t *testing.T) {
	if sums.Hash(nil) != 860922984064492325 || sums.Hash([]byte("a")) != 3414815163700866188 {
		t.Error("Hash", sums.Hash(nil), sums.Hash([]byte("a")))
	}
	for c := range 256 {
		if got := sums.Hash([]byte{byte(c)}); got != more(860922984064492325, []byte{byte(c)}) {
			t.Errorf("Hash of the byte %x = %d", c, got)
		}
	}
	long := sample(300)
	for _, h := range starts {
		for length := range len(long) {
			got := sums.More(h, long[:length])
			if got != more(h, long[:length]) || got < 0 || got >= 1<<62 {
				t.Fatalf("More(%d) of %d bytes = %d", h, length, got)
			}
		}
	}
	for length := range len(long) {
		if got := sums.Hash(long[:length]); got != sums.More(860922984064492325, long[:length]) {
			t.Fatalf("Hash of %d bytes = %d", length, got)
		}
	}
}

// P5.4
func TestMoreInParts(t *testing.T) {
	b := sample(60)
	for _, h := range starts {
		for cut := range len(b) + 1 {
			if sums.More(sums.More(h, b[:cut]), b[cut:]) != sums.More(h, b) {
				t.Fatalf("More(%d) with a cut at %d", h, cut)
			}
		}
	}
}

// P5.4: numbers that differ modulo 2^62, and only those, lead to different hashes.
func TestMoreOfNumbers(t *testing.T) {
	const modulus = 1 << 62
	for _, b := range [][]byte{nil, {0}, {0, 255, 7}, sample(40)} {
		for _, g := range starts {
			for _, h := range starts {
				same := uint64(g)%modulus == uint64(h)%modulus
				if (sums.More(g, b) == sums.More(h, b)) != same {
					t.Errorf("More of %d and %d with %x", g, h, b)
				}
			}
		}
	}
}

// P5.4: one byte that differs leads to another hash, and to another Crc.
func TestOneByteDiffers(t *testing.T) {
	b := sample(24)
	hash, crc := sums.Hash(b), sums.Crc(b)
	for i := range b {
		old := b[i]
		for d := 1; d < 256; d++ {
			b[i] = old ^ byte(d)
			if sums.Hash(b) == hash || sums.Crc(b) == crc {
				t.Fatalf("the byte %d with %x more has the same sum", i, d)
			}
		}
		b[i] = old
	}
}

// P5.4: bytes that differ within four that follow one another have different Crcs.
func TestFourBytesDiffer(t *testing.T) {
	b := sample(20)
	crc := sums.Crc(b)
	for i := 0; i+4 <= len(b); i++ {
		for _, d := range [][4]byte{{1, 0, 0, 1}, {0x80, 0, 0, 1}, {1, 2, 3, 4}, {0xff, 0xff, 0xff, 0xff}, {0x20, 0x83, 0xb8, 0xed}, {0xed, 0xb8, 0x83, 0x20}, {0x96, 0x30, 0x07, 0x77}, {0, 0, 0, 0x80}, {1, 0, 0, 0}} {
			changed := append([]byte(nil), b...)
			for k := range d {
				changed[i+k] ^= d[k]
			}
			if sums.Crc(changed) == crc {
				t.Errorf("%x at %d: the same Crc", d, i)
			}
		}
	}
}

// P5.3
func TestHexAndUnhex(t *testing.T) {
	numbers := append([]int{10, 15, 16, 0xabcdef, 3414815163700866188, 0x0123456789abcdef, 0x3edcba9876543210}, starts...)
	for shift := range 62 {
		numbers = append(numbers, 1<<shift, -(1 << shift))
	}
	for _, n := range numbers {
		rest := uint64(n) % (1 << 62)
		s := sums.Hex(n)
		if s != fmt.Sprintf("%016x", rest) {
			t.Errorf("Hex(%d) = %s", n, s)
		}
		if back, ok := sums.Unhex(s); back != int(rest) || !ok {
			t.Errorf("Unhex(%s) = %d, %t", s, back, ok)
		}
	}
}

// P5.3: texts that no number has.
func TestUnhexRefuses(t *testing.T) {
	for _, s := range []string{
		"", "0", "000000000000000", "00000000000000000", "4000000000000000", "7fffffffffffffff", "8000000000000000", "ffffffffffffffff", "c000000000000001", "2f63dc4c8601ec8C", "000000000000000A", "00000000000000-1", "-000000000000001", "+000000000000001", "0x00000000000001", "000000000000_001", "000000000000000g", "000000000000000/", "000000000000000:", "000000000000000`", " 00000000000000a", "00000000000000a ", "000000000000000\n", "00000000000000\u00e9", "\xff00000000000000\xff", "10000000000000000", "0" + strings.Repeat("0", 32),
	} {
		if n, ok := sums.Unhex(s); n != 0 || ok {
			t.Errorf("Unhex(%q) = %d, %t", s, n, ok)
		}
	}
	for i := range 16 {
		for c := range 256 {
			s := []byte("0000000000000000")
			s[i] = byte(c)
			isDigit := strings.IndexByte("0123456789abcdef", byte(c)) >= 0
			if n, ok := sums.Unhex(string(s)); ok != (isDigit && (i > 0 || c < '4')) || ok && sums.Hex(n) != string(s) || !ok && n != 0 {
				t.Errorf("Unhex(%q) = %d, %t", s, n, ok)
			}
		}
	}
}

// R5
func TestArgumentsStay(t *testing.T) {
	b := []byte("langdoc")
	sums.Crc(b)
	sums.Hash(b)
	sums.More(7, b)
	if string(b) != "langdoc" {
		t.Errorf("%q", b)
	}
}
