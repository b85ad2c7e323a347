package wire_test

import (
	"bytes"
	"math"
	"math/big"
	"slices"
	"strings"
	"testing"

	"langdoc/api"
	"langdoc/wire"
)

// encoded returns the encoding of a number, from its definition.
func encoded(n int) []byte {
	u := new(big.Int).Mul(big.NewInt(2), big.NewInt(int64(n)))
	if n < 0 {
		u.Neg(u).Sub(u, big.NewInt(1))
	}
	var b []byte
	for {
		group := new(big.Int)
		u.DivMod(u, big.NewInt(128), group)
		if u.Sign() == 0 {
			return append(b, byte(group.Int64()))
		}
		b = append(b, byte(group.Int64()+128))
	}
}

// numbers returns small numbers, the neighbors of the powers of two, and the extremes.
func numbers() []int {
	var l []int
	for n := -300; n <= 300; n++ {
		l = append(l, n)
	}
	for shift := 8; shift < 63; shift++ {
		for d := -2; d <= 2; d++ {
			l = append(l, 1<<shift+d, -(1<<shift)+d)
		}
	}
	return append(l, math.MaxInt, math.MaxInt-1, math.MinInt, math.MinInt+1, api.MaxNum, -api.MaxNum)
}

// P4.1, P4.2
func TestInt(t *testing.T) {
	for n, s := range map[int]string{
		0: "\x00", -1: "\x01", 1: "\x02", -2: "\x03", 63: "\x7e", -64: "\x7f", 64: "\x80\x01", -65: "\x81\x01", 100: "\xc8\x01", 8191: "\xfe\x7f", 8192: "\x80\x80\x01",
		math.MaxInt: "\xfe\xff\xff\xff\xff\xff\xff\xff\xff\x01", math.MinInt: "\xff\xff\xff\xff\xff\xff\xff\xff\xff\x01",
	} {
		if got := wire.PutInt(nil, n); string(got) != s {
			t.Errorf("PutInt(%d) = %x, want %x", n, got, s)
		}
		if got, to, err := wire.Int([]byte(s), 0); got != n || to != len(s) || err != api.OK {
			t.Errorf("Int(%x) = %d, %d, %d", s, got, to, err)
		}
	}
}

// P4.1, P4.2, P4.4: whatever bytes stand before and behind.
func TestIntAmongBytes(t *testing.T) {
	for _, n := range numbers() {
		for _, before := range []string{"", "x", "\x80\x80", "\xff\xff\xff\xff\xff\xff\xff\xff\xff\xff"} {
			for _, behind := range []string{"", "\x00", "\x80", "\xff\xff\xff\xff\xff\xff\xff\xff\xff\xff\xff"} {
				b := wire.PutInt([]byte(before), n)
				if string(b) != before+string(encoded(n)) {
					t.Fatalf("PutInt(%x, %d) = %x", before, n, b)
				}
				got, to, err := wire.Int([]byte(string(b)+behind), len(before))
				if got != n || to != len(b) || err != api.OK {
					t.Fatalf("Int of %d behind %x: %d, %d, %d", n, before, got, to, err)
				}
			}
		}
	}
}

// P4.2: the errors, and their order.
func TestIntErrors(t *testing.T) {
	nines := strings.Repeat("\xff", 9)
	zeros := strings.Repeat("\x80", 9)
	for _, c := range []struct {
		s   string
		at  int
		err api.Errno
	}{
		{"", -1, api.ErrRange}, {"", 1, api.ErrRange}, {"\x00", -1, api.ErrRange}, {"\x00", 2, api.ErrRange}, {"\x80\x00", 3, api.ErrRange}, {"\x00\x00", math.MinInt, api.ErrRange}, {"\x00\x00", math.MaxInt, api.ErrRange},
		{"", 0, api.ErrShort}, {"\x00", 1, api.ErrShort}, {"\x80", 0, api.ErrShort}, {"\x00\xff", 1, api.ErrShort}, {nines, 0, api.ErrShort}, {zeros, 0, api.ErrShort}, {"\x00\x80\x80", 2, api.ErrShort},
		{nines + "\xff", 0, api.ErrForm}, {zeros + "\x80", 0, api.ErrForm}, {nines + "\xff\x01", 0, api.ErrForm}, {zeros + "\x80\x00", 0, api.ErrForm}, {nines + nines + nines, 3, api.ErrForm},
		{"\x80\x00", 0, api.ErrForm}, {"\xff\x00", 0, api.ErrForm}, {"\x80\x80\x00", 0, api.ErrForm}, {"\x80\x80\x00", 1, api.ErrForm}, {"\xff\x80\x00\x05", 0, api.ErrForm},
		{zeros + "\x00", 0, api.ErrForm}, {nines + "\x00", 0, api.ErrForm}, {nines + "\x02", 0, api.ErrForm}, {nines + "\x03", 0, api.ErrForm}, {zeros + "\x7f", 0, api.ErrForm}, {nines + "\x40", 0, api.ErrForm},
		{nines + "\x80", 1, api.ErrShort}, {nines + "\xff\x7f", 1, api.ErrForm},
	} {
		if n, to, err := wire.Int([]byte(c.s), c.at); n != 0 || to != 0 || err != c.err {
			t.Errorf("Int(%x, %d) = %d, %d, %d, want the error %d", c.s, c.at, n, to, err, c.err)
		}
	}
	if n, to, err := wire.Int([]byte(zeros+"\x01"), 0); n != 1<<62 || to != 10 || err != api.OK {
		t.Errorf("Int of the tenth byte 1: %d, %d, %d", n, to, err)
	}
}

// P4.2, P4.4: all strings of at most two bytes.
func TestIntOfShortStrings(t *testing.T) {
	for c := range 256 {
		for d := range 256 {
			b := []byte{byte(c), byte(d)}
			n, to, err := wire.Int(b, 0)
			switch {
			case c < 128:
				if to != 1 || err != api.OK || !bytes.Equal(encoded(n), b[:1]) {
					t.Fatalf("Int(%x) = %d, %d, %d", b, n, to, err)
				}
			case d >= 128:
				if n != 0 || to != 0 || err != api.ErrShort {
					t.Fatalf("Int(%x) = %d, %d, %d", b, n, to, err)
				}
			case d == 0:
				if n != 0 || to != 0 || err != api.ErrForm {
					t.Fatalf("Int(%x) = %d, %d, %d", b, n, to, err)
				}
			default:
				if to != 2 || err != api.OK || !bytes.Equal(encoded(n), b) {
					t.Fatalf("Int(%x) = %d, %d, %d", b, n, to, err)
				}
			}
		}
	}
}

// P4.1: the results are new memory.
func TestPutsAreNewMemory(t *testing.T) {
	puts := []func(b []byte) []byte{
		func(b []byte) []byte { return wire.PutInt(b, 1) },
		func(b []byte) []byte { return wire.PutText(b, "a") },
		func(b []byte) []byte { return wire.PutText(b, "") },
		func(b []byte) []byte { return wire.PutInts(b, []int{1}) },
		func(b []byte) []byte { return wire.PutInts(b, nil) },
	}
	for i, put := range puts {
		memory := []byte("abcdefghijkl")
		want := "ab" + string(put(nil))
		first, second := put(memory[:2]), put(memory[:2])
		if string(memory) != "abcdefghijkl" {
			t.Errorf("%d: the argument's memory became %q", i, memory)
		}
		memory[0], second[1], second[2] = 'x', 'y', 'z'
		if string(first) != want {
			t.Errorf("%d: the result became %q, want %q", i, first, want)
		}
	}
	for i, put := range puts {
		full := []byte("ab")[:2:2]
		result := put(full)
		full[0] = 'x'
		if result[0] != 'a' {
			t.Errorf("%d: the result shares memory with the argument", i)
		}
	}
}

// P4.1, P4.3, P4.4
func TestTextAt(t *testing.T) {
	for s, want := range map[string]string{"": "\x00", "a": "\x02a", "ab": "\x04ab", "\x00\xff": "\x04\x00\xff", strings.Repeat("x", 63): "\x7e" + strings.Repeat("x", 63), strings.Repeat("\x80", 64): "\x80\x01" + strings.Repeat("\x80", 64)} {
		b := wire.PutText([]byte("\xff\x02"), s)
		if string(b) != "\xff\x02"+want {
			t.Errorf("PutText(%q) = %x", s, b)
		}
		for _, behind := range []string{"", "a", "\xff\xff"} {
			if got, to, err := wire.TextAt([]byte(string(b)+behind), 2); got != s || to != len(b) || err != api.OK {
				t.Errorf("TextAt(%q) = %q, %d, %d", s, got, to, err)
			}
		}
	}
	long := strings.Repeat("langdoc", 40000)
	if got, to, err := wire.TextAt(wire.PutText(nil, long), 0); got != long || to != len(long)+3 || err != api.OK {
		t.Error("a long text", len(got), to, err)
	}
}

// P4.3: the errors, and their order.
func TestTextAtErrors(t *testing.T) {
	nines := strings.Repeat("\xff", 9)
	for _, c := range []struct {
		s   string
		at  int
		err api.Errno
	}{
		{"", -1, api.ErrRange}, {"\x00", 2, api.ErrRange}, {"\x02a", math.MaxInt, api.ErrRange},
		{"", 0, api.ErrShort}, {"\x80", 0, api.ErrShort}, {"\x80\x00", 0, api.ErrForm}, {nines + "\xff", 0, api.ErrForm}, {nines + "\x02", 0, api.ErrForm},
		{"\x01", 0, api.ErrForm}, {"\x03abc", 0, api.ErrForm}, {"\x81\x01", 0, api.ErrForm}, {nines + "\x01", 0, api.ErrForm},
		{"\x02", 0, api.ErrShort}, {"\x04a", 0, api.ErrShort}, {"\x06abc", 1, api.ErrForm}, {"a\x06bc", 1, api.ErrShort}, {"\xfe" + nines[:8] + "\x01abc", 0, api.ErrShort}, {"\xfc" + nines[:8] + "\x01", 0, api.ErrShort},
	} {
		if s, to, err := wire.TextAt([]byte(c.s), c.at); s != "" || to != 0 || err != c.err {
			t.Errorf("TextAt(%x, %d) = %q, %d, %d, want the error %d", c.s, c.at, s, to, err, c.err)
		}
	}
}

// P4.1, P4.3, P4.4
func TestInts(t *testing.T) {
	for _, l := range [][]int{nil, {0}, {1, -1}, {64, 0, -65}, numbers()} {
		want := encoded(len(l))
		for _, n := range l {
			want = append(want, encoded(n)...)
		}
		b := wire.PutInts([]byte("\x80"), l)
		if string(b) != "\x80"+string(want) {
			t.Errorf("PutInts(%v) = %x", l, b)
		}
		for _, behind := range []string{"", "\x00", "\xff\xff\xff\xff\xff\xff\xff\xff\xff\xff"} {
			if got, to, err := wire.Ints([]byte(string(b)+behind), 1); !slices.Equal(got, l) || to != len(b) || err != api.OK {
				t.Errorf("Ints of %v = %v, %d, %d", l, got, to, err)
			}
		}
	}
	if b := wire.PutInts(nil, []int{1, -1}); string(b) != "\x04\x02\x01" {
		t.Errorf("PutInts = %x", b)
	}
}

// P4.3: the errors, and their order; the length may claim more than there is.
func TestIntsErrors(t *testing.T) {
	nines := strings.Repeat("\xff", 9)
	for _, c := range []struct {
		s   string
		at  int
		err api.Errno
	}{
		{"", -1, api.ErrRange}, {"\x00", 2, api.ErrRange}, {"\x02\x00", math.MinInt, api.ErrRange},
		{"", 0, api.ErrShort}, {"\x80", 0, api.ErrShort}, {"\x80\x00", 0, api.ErrForm}, {nines + "\xff", 0, api.ErrForm},
		{"\x01", 0, api.ErrForm}, {"\x03\x00", 0, api.ErrForm}, {nines + "\x01", 0, api.ErrForm},
		{"\x02", 0, api.ErrShort}, {"\x04\x02", 0, api.ErrShort}, {"\x04\x02\x80", 0, api.ErrShort}, {"\x04\x02\x80\x00", 0, api.ErrForm}, {"\x06\x02\x80\x00", 0, api.ErrForm}, {"\x06\x80\x00\x80", 0, api.ErrForm}, {"\x04\x02" + nines + "\x7f", 0, api.ErrForm}, {"\x04\x02" + nines, 0, api.ErrShort},
		{"\xfe" + nines[:8] + "\x01", 0, api.ErrShort}, {"\xfe" + nines[:8] + "\x01\x00\x02", 0, api.ErrShort}, {"\xfe" + nines[:8] + "\x01\x00\x80\x00", 0, api.ErrForm}, {"\x80\x80\x80\x80\x80\x20\x00", 0, api.ErrShort},
	} {
		if l, to, err := wire.Ints([]byte(c.s), c.at); len(l) != 0 || to != 0 || err != c.err {
			t.Errorf("Ints(%x, %d) = %v, %d, %d, want the error %d", c.s, c.at, l, to, err, c.err)
		}
	}
}

// P4.4: what was read without an error is put again as the same bytes.
func TestPutAgain(t *testing.T) {
	const alphabet = "\x00\x01\x02\x04\x06\x7f\x80\x81\xfe\xff"
	read := 0
	var visit func(s string)
	visit = func(s string) {
		b := []byte(s)
		if n, to, err := wire.Int(b, 0); err == api.OK && string(wire.PutInt(nil, n)) != s[:to] {
			t.Fatalf("Int(%x) = %d, %d", s, n, to)
		}
		if text, to, err := wire.TextAt(b, 0); err == api.OK && string(wire.PutText(nil, text)) != s[:to] {
			t.Fatalf("TextAt(%x) = %q, %d", s, text, to)
		}
		if l, to, err := wire.Ints(b, 0); err == api.OK {
			read++
			if string(wire.PutInts(nil, l)) != s[:to] {
				t.Fatalf("Ints(%x) = %v, %d", s, l, to)
			}
		}
		if string(b) != s {
			t.Fatalf("the argument %x became %x", s, b)
		}
		if len(s) == 5 {
			return
		}
		for i := range len(alphabet) {
			visit(s + alphabet[i:i+1])
		}
	}
	visit("")
	if read == 0 {
		t.Error("nothing was read")
	}
}

// P4.4: encodings one after the other are read one after the other.
func TestSeveralInARow(t *testing.T) {
	b := wire.PutInts(wire.PutText(wire.PutInt(nil, -300), "n\u0301\x00"), []int{7, math.MinInt})
	b = wire.PutText(b, "")
	n, at, err := wire.Int(b, 0)
	if n != -300 || err != api.OK {
		t.Error(n, err)
	}
	s, at, err := wire.TextAt(b, at)
	if s != "n\u0301\x00" || err != api.OK {
		t.Error(s, err)
	}
	l, at, err := wire.Ints(b, at)
	if !slices.Equal(l, []int{7, math.MinInt}) || err != api.OK {
		t.Error(l, err)
	}
	s, at, err = wire.TextAt(b, at)
	if s != "" || at != len(b) || err != api.OK {
		t.Error(s, at, err)
	}
}
