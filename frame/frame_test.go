package frame_test

import (
	"bytes"
	"hash/crc32"
	"math"
	"math/rand"
	"slices"
	"strings"
	"testing"

	"langdoc/api"
	"langdoc/frame"
	"langdoc/wire"
)

// withSum returns bytes with their checksum behind them.
func withSum(s string) string {
	n := crc32.ChecksumIEEE([]byte(s))
	return s + string([]byte{byte(n), byte(n >> 8), byte(n >> 16), byte(n >> 24)})
}

// framed returns the frame of a content, from its definition.
func framed(kind int, content string) string {
	return withSum("\x4c" + string([]byte{byte(kind)}) + string(wire.PutInt(nil, len(content))) + content)
}

func sealed(t *testing.T, kind int, content string) string {
	b, err := frame.Seal(kind, []byte(content))
	if err != api.OK {
		t.Fatalf("Seal(%d, %q): error %d", kind, content, err)
	}
	return string(b)
}

// contents are contents of several lengths, those with which the length gets a byte more among them.
func contents() []string {
	l := []string{"", "a", "L", "L\x01\x00", framed(3, "inner"), "\x00\x00\x00\x00", "\xff\xff\xff\xff\xff", "content"}
	for _, n := range []int{62, 63, 64, 65, 127, 128, 300, 8191, 8192} {
		l = append(l, strings.Repeat("x", n))
	}
	return l
}

// P6.1
func TestSeal(t *testing.T) {
	for _, content := range contents() {
		for _, kind := range []int{1, 2, 76, 128, 254, 255} {
			b, err := frame.Seal(kind, []byte(content))
			if string(b) != framed(kind, content) || err != api.OK {
				t.Errorf("Seal(%d, %.20q) = %.40x, %d, want %.40x", kind, content, b, err, framed(kind, content))
			}
		}
	}
	if s := sealed(t, 1, ""); len(s) != 7 || s[:3] != "\x4c\x01\x00" {
		t.Errorf("the frame of the kind 1 without content is %x", s)
	}
}

// P6.1: the errors, and their order.
func TestSealErrors(t *testing.T) {
	largest, tooLarge := make([]byte, api.MaxBytes), make([]byte, api.MaxBytes+1)
	for _, c := range []struct {
		kind int
		b    []byte
		err  api.Errno
	}{
		{0, nil, api.ErrArg}, {-1, nil, api.ErrArg}, {256, nil, api.ErrArg}, {257, []byte("a"), api.ErrArg}, {math.MaxInt, nil, api.ErrArg}, {math.MinInt, nil, api.ErrArg}, {1 << 32, nil, api.ErrArg},
		{0, tooLarge, api.ErrArg}, {256, tooLarge, api.ErrArg}, {1, tooLarge, api.ErrLong}, {255, tooLarge, api.ErrLong},
	} {
		if b, err := frame.Seal(c.kind, c.b); len(b) != 0 || err != c.err {
			t.Errorf("Seal(%d, %d bytes) = %d bytes, %d, want the error %d", c.kind, len(c.b), len(b), err, c.err)
		}
	}
	b, err := frame.Seal(255, largest)
	if string(b) != framed(255, string(largest)) || err != api.OK {
		t.Errorf("the largest content: %d bytes, %d", len(b), err)
	}
	if kind, content, next, err := frame.Open(b, 0); kind != 255 || !bytes.Equal(content, largest) || next != len(b) || err != api.OK {
		t.Errorf("Open of the largest content: %d, %d bytes, %d, %d", kind, len(content), next, err)
	}
}

// P6.2, P6.4: whatever precedes and follows the frame.
func TestOpen(t *testing.T) {
	for _, content := range contents() {
		for _, before := range []string{"", "L", "\x00\xff", framed(9, "before")} {
			for _, behind := range []string{"", "\x00", "L", framed(9, "behind")} {
				s := before + framed(7, content) + behind
				kind, b, next, err := frame.Open([]byte(s), len(before))
				if kind != 7 || string(b) != content || next != len(s)-len(behind) || err != api.OK {
					t.Fatalf("Open(%.60x, %d) = %d, %.20q, %d, %d", s, len(before), kind, b, next, err)
				}
			}
		}
	}
}

// P6.2: the errors, and their order.
func TestOpenErrors(t *testing.T) {
	good := framed(5, "content")
	tens := strings.Repeat("\x80", 10)
	for _, c := range []struct {
		s   string
		at  int
		err api.Errno
	}{
		{"", -1, api.ErrRange}, {"", 1, api.ErrRange}, {good, -1, api.ErrRange}, {good, len(good) + 1, api.ErrRange}, {good, math.MaxInt, api.ErrRange}, {good, math.MinInt, api.ErrRange},
		{"", 0, api.ErrShort}, {good, len(good), api.ErrShort}, {"x", 1, api.ErrShort},
		{"x", 0, api.ErrForm}, {"\x00", 0, api.ErrForm}, {"\x4b\x00", 0, api.ErrForm}, {"\x4d" + good[1:], 0, api.ErrForm}, {good, 1, api.ErrForm}, {"\xcc", 0, api.ErrForm},
		{"L", 0, api.ErrShort}, {good + "L", len(good), api.ErrShort},
		{"L\x00", 0, api.ErrForm}, {"L\x00\x00", 0, api.ErrForm}, {withSum("L\x00\x00"), 0, api.ErrForm}, {"L\x00\x80", 0, api.ErrForm},
		{"L\x01", 0, api.ErrShort}, {"L\x01\x80", 0, api.ErrShort}, {"L\xff\xff\xff", 0, api.ErrShort}, {"L\x01" + tens[:9], 0, api.ErrShort},
		{"L\x01\x80\x00", 0, api.ErrForm}, {"L\x01" + tens, 0, api.ErrForm}, {"L\x01" + tens[:9] + "\x02", 0, api.ErrForm}, {withSum("L\x01\x80\x00"), 0, api.ErrForm},
		{"L\x01\x01", 0, api.ErrForm}, {"L\x01\x03", 0, api.ErrForm}, {withSum("L\x01\x01"), 0, api.ErrForm}, {"L\x01" + string(wire.PutInt(nil, math.MinInt)), 0, api.ErrForm},
		{"L\x01" + string(wire.PutInt(nil, api.MaxBytes+1)), 0, api.ErrForm}, {"L\x01" + string(wire.PutInt(nil, math.MaxInt)), 0, api.ErrForm}, {withSum("L\x01" + string(wire.PutInt(nil, api.MaxBytes+1)) + strings.Repeat("a", api.MaxBytes+1)), 0, api.ErrForm},
		{"L\x01" + string(wire.PutInt(nil, api.MaxBytes)), 0, api.ErrShort}, {"L\x01\x00", 0, api.ErrShort}, {"L\x01\x00\x00\x00\x00", 0, api.ErrShort}, {"L\x01\x02a", 0, api.ErrShort},
		{"L\x01\x00\x00\x00\x00\x00", 0, api.ErrSum}, {"L\x01\x02a\x00\x00\x00\x00", 0, api.ErrSum}, {good[:4] + "X" + good[5:], 0, api.ErrSum}, {"L\x06" + good[2:], 0, api.ErrSum},
	} {
		kind, b, next, err := frame.Open([]byte(c.s), c.at)
		if kind != 0 || len(b) != 0 || next != 0 || err != c.err {
			t.Errorf("Open(%.40x, %d) = %d, %q, %d, %d, want the error %d", c.s, c.at, kind, b, next, err, c.err)
		}
	}
	for _, s := range []string{good, framed(1, ""), framed(255, strings.Repeat("L", 100))} {
		for i := range len(s) {
			if kind, b, next, err := frame.Open([]byte(s[:i]), 0); kind != 0 || len(b) != 0 || next != 0 || err != api.ErrShort {
				t.Errorf("the first %d bytes of %x: %d, %q, %d, %d", i, s, kind, b, next, err)
			}
		}
	}
}

// P6.2: each byte of the checksum is compared.
func TestOpenComparesTheSum(t *testing.T) {
	good := framed(5, "content")
	for i := len(good) - 4; i < len(good); i++ {
		for d := 1; d < 256; d++ {
			b := []byte(good)
			b[i] += byte(d)
			if _, _, next, err := frame.Open(b, 0); next != 0 || err != api.ErrSum {
				t.Errorf("Open with the byte %d changed by %d: %d, %d", i, d, next, err)
			}
		}
	}
}

// P6.3, P6.4: frames one after the other, cut anywhere.
func TestAllOfCutFrames(t *testing.T) {
	kinds := []int{1, 255, 76, 3, 3}
	texts := []string{"a", "", framed(1, "inner"), strings.Repeat("b", 70), "L"}
	var s string
	ends := []int{0}
	for i, kind := range kinds {
		s += framed(kind, texts[i])
		ends = append(ends, len(s))
	}
	for cut := range len(s) + 1 {
		whole := 0
		for whole < len(kinds) && ends[whole+1] <= cut {
			whole++
		}
		checkAll(t, s[:cut], kinds[:whole], texts[:whole], ends[whole])
	}
}

func checkAll(t *testing.T, s string, kinds []int, texts []string, end int) {
	gotKinds, gotContents, at := frame.All([]byte(s))
	var got []string
	for _, b := range gotContents {
		got = append(got, string(b))
	}
	if !slices.Equal(gotKinds, kinds) || !slices.Equal(got, texts) || at != end {
		t.Errorf("All(%x) = %v, %q, %d, want %v, %q, %d", s, gotKinds, got, at, kinds, texts, end)
	}
}

// P6.3: up to the first error, whatever it is.
func TestAllUpToAnError(t *testing.T) {
	one, two := framed(1, "one"), framed(2, "two")
	for _, wrong := range []string{"x", "\x00", "L\x00", "L\x01\x01", withSum("L\x01\x01"), "L\x01\x00\x00\x00\x00\x00", one[1:], framed(4, "four")[:9] + "xxxx"} {
		checkAll(t, wrong+one, nil, nil, 0)
		checkAll(t, one+wrong+two, []int{1}, []string{"one"}, len(one))
		checkAll(t, one+two+wrong, []int{1, 2}, []string{"one", "two"}, len(one+two))
	}
	checkAll(t, "", nil, nil, 0)
	checkAll(t, one+two+one, []int{1, 2, 1}, []string{"one", "two", "one"}, len(one+two+one))
}

// P6.4: the bytes that Open accepts are those that Seal returns.
func TestAcceptedBytesAreSealed(t *testing.T) {
	random := rand.New(rand.NewSource(6))
	accepted := 0
	for range 20000 {
		length := random.Intn(4)
		body := []byte{76, byte(random.Intn(3)), byte(random.Intn(8))}
		if random.Intn(3) == 0 {
			body = append(body[:2], byte(2*length)|0x80, byte(random.Intn(2)))
		}
		for range length {
			body = append(body, byte(random.Intn(256)))
		}
		b := []byte(withSum(string(body)))
		kind, content, next, err := frame.Open(b, 0)
		if err != api.OK {
			continue
		}
		accepted++
		again, err := frame.Seal(kind, content)
		if err != api.OK || !bytes.Equal(again, b[:next]) {
			t.Fatalf("Open(%x) = %d, %x, %d, and Seal of it is %x, %d", b, kind, content, next, again, err)
		}
	}
	if accepted < 100 {
		t.Errorf("only %d were accepted", accepted)
	}
}

// inverted returns a frame whose bits are inverted from the bit from on, where the mask has a bit.
func inverted(s string, from int, mask uint32) []byte {
	b := []byte(s)
	for i := range 32 {
		if bit := from + i; mask>>i&1 == 1 {
			b[bit/8] ^= 1 << (bit % 8)
		}
	}
	return b
}

// P6.4: inverted bits among 32 consecutive ones, but for those of the length.
func TestInvertedBits(t *testing.T) {
	random := rand.New(rand.NewSource(64))
	masks := []uint32{1, 3, 0x80000001, 0xffffffff, 0xedb88320, 0xff, 0x101, 0x01000001}
	for _, content := range []string{"", "a", "content", strings.Repeat("long content ", 8)} {
		s := framed(90, content)
		// The length has one byte, or two.
		lengthEnd := 16 + 8*len(wire.PutInt(nil, len(content)))
		for from := range 8 * len(s) {
			for range 20 {
				masks = append(masks[:8], random.Uint32(), random.Uint32()&random.Uint32()&random.Uint32())
				for _, mask := range masks {
					mask &= permitted(from, lengthEnd, 8*len(s))
					if mask == 0 {
						continue
					}
					kind, b, next, err := frame.Open(inverted(s, from, mask), 0)
					if err == api.OK || kind != 0 || len(b) != 0 || next != 0 {
						t.Fatalf("Open(%x) with the bits %x from %d on inverted: %d, %x, %d, %d", s, mask, from, kind, b, next, err)
					}
				}
			}
		}
	}
}

// permitted returns a mask of the bits from a bit on that are neither of the length nor behind the frame.
func permitted(from, lengthEnd, end int) uint32 {
	var mask uint32
	for i := range 32 {
		if bit := from + i; bit < 16 || bit >= lengthEnd && bit < end {
			mask |= 1 << i
		}
	}
	return mask
}

// R5: arguments are not modified, nor what stands behind them in memory.
func TestArgumentsAreKept(t *testing.T) {
	memory := []byte("content and more")
	if b, err := frame.Seal(3, memory[:7]); string(b) != framed(3, "content") || err != api.OK {
		t.Errorf("Seal = %x, %d", b, err)
	}
	if string(memory) != "content and more" {
		t.Errorf("the content became %q", memory)
	}
	frames := framed(3, "content") + framed(4, "")
	b := []byte(frames)
	frame.Open(b, 0)
	frame.All(b)
	if string(b) != frames {
		t.Errorf("the frames became %x", b)
	}
}
