package crc_test

import (
	"bytes"
	"math"
	"testing"

	"topiary/crc"
)

// The signatures that the chapter lists.
var (
	_ func([]byte) uint32         = crc.Of
	_ func(uint32, []byte) uint32 = crc.More
)

// counted is the bytes 0, 1, .. 255.
func counted() []byte {
	var b []byte
	for i := range 256 {
		b = append(b, byte(i))
	}
	return b
}

// samples are the empty one, ordinary ones, and some whose bytes are all alike.
func samples() [][]byte {
	l := [][]byte{nil, {}, []byte("a"), []byte("ab"), []byte("<p>a<p>b"), []byte("123456789"), counted()}
	for _, n := range []int{1, 4, 5, 33} {
		l = append(l, make([]byte, n), bytes.Repeat([]byte{255}, n), bytes.Repeat([]byte{0x80}, n))
	}
	return l
}

// sums are ordinary ones, the lowest and the highest, and each with one bit alone.
func sums() []uint32 {
	l := []uint32{0, 3, 0xcbf43926, 0xdeadbeef, 0xedb88320, math.MaxInt32, math.MaxUint32 - 1, math.MaxUint32}
	for i := range 32 {
		l = append(l, 1<<i)
	}
	return l
}

// divided works the sum out as a long division of the bits, all of them at hand: the lowest bit of a byte is ahead, as is the lowest of the sum that is gone on with.
func divided(sum uint32, b []byte) uint32 {
	row := make([]uint32, 8*len(b)+32)
	for i := range 8 * len(b) {
		row[i] = uint32(b[i/8]) >> (i % 8) & 1
	}
	for i := range 32 {
		row[i] ^= ^sum >> i & 1
	}
	for i := range 8 * len(b) {
		if row[i] == 1 {
			for k := range 32 {
				row[i+1+k] ^= uint32(0xedb88320) >> k & 1
			}
		}
	}
	rest := uint32(0)
	for i := range 32 {
		rest |= row[8*len(b)+i] << i
	}
	return ^rest
}

// P2.1: the numbers were worked out apart from this program.
func TestOfExamples(t *testing.T) {
	for _, x := range []struct {
		b    []byte
		want uint32
	}{
		{[]byte("123456789"), 0xcbf43926},
		{nil, 0},
		{[]byte{}, 0},
		{[]byte{0}, 0xd202ef8d},
		{[]byte("a"), 0xe8b7be43},
		{[]byte("abc"), 0x352441c2},
		{[]byte{255, 255, 255, 255}, 0xffffffff},
		{[]byte{0, 0, 0, 0}, 0x2144df1c},
		{counted(), 0x29058c73},
		{[]byte("The quick brown fox jumps over the lazy dog"), 0x414fa339},
		{[]byte("<p>a</p>"), 0xa6b853c9},
	} {
		if got := crc.Of(x.b); got != x.want {
			t.Errorf("Of(%q) = %#x, want %#x", x.b, got, x.want)
		}
	}
}

// P2.1: the numbers were worked out apart from this program.
func TestMoreExamples(t *testing.T) {
	for _, x := range []struct {
		sum  uint32
		b    []byte
		want uint32
	}{
		{0, nil, 0},
		{1, nil, 1},
		{math.MaxUint32, []byte{}, math.MaxUint32},
		{0, []byte("123456789"), 0xcbf43926},
		{1, []byte{0}, 0xa505df1b},
		{math.MaxUint32, []byte{0}, math.MaxUint32},
		{math.MaxUint32, []byte("a"), 0xc54aae31},
		{0xdeadbeef, []byte("abc"), 0x45bb8ae2},
		{1, []byte{255, 255, 255, 255}, 0x4743989a},
		{math.MaxUint32, []byte{0, 0, 0, 0}, math.MaxUint32},
		{0xdeadbeef, counted(), 0xc2bf5872},
		{0xdeadbeef, []byte("<p>a</p>"), 0x1f4593f1},
	} {
		if got := crc.More(x.sum, x.b); got != x.want {
			t.Errorf("More(%#x, %q) = %#x, want %#x", x.sum, x.b, got, x.want)
		}
	}
}

// P2.1: each sum with each byte.
func TestMoreDividesEachByte(t *testing.T) {
	for _, s := range sums() {
		for _, c := range counted() {
			b := []byte{c}
			if got, want := crc.More(s, b), divided(s, b); got != want {
				t.Fatalf("More(%#x, %v) = %#x, want %#x", s, b, got, want)
			}
		}
	}
}

// P2.1
func TestMoreDividesStrings(t *testing.T) {
	for _, b := range samples() {
		for _, s := range sums() {
			if got, want := crc.More(s, b), divided(s, b); got != want {
				t.Fatalf("More(%#x, %q) = %#x, want %#x", s, b, got, want)
			}
		}
		if crc.Of(b) != crc.More(0, b) {
			t.Errorf("Of(%q) is not More(0, %q)", b, b)
		}
	}
}

// P2.1, R3 and R4: what is handed in stays, its spare room too, and a second call answers the same.
func TestBytesStay(t *testing.T) {
	for _, b := range samples() {
		room := append(append([]byte{}, b...), 7, 8, 9)
		kept := append([]byte{}, room...)
		first := crc.More(5, room[:len(b)])
		crc.Of(room[:len(b)])
		if !bytes.Equal(room, kept) {
			t.Errorf("the bytes of %q are changed: %q", kept, room)
		}
		if got := crc.More(5, b); got != first {
			t.Errorf("More(5, %q) = %#x, and %#x ahead of it", b, got, first)
		}
	}
}

// P2.2: a sum that goes on is that of both strings, one behind the other.
func TestSumsGoOn(t *testing.T) {
	for _, a := range samples() {
		for _, b := range samples() {
			both := append(append([]byte{}, a...), b...)
			if got, want := crc.More(crc.Of(a), b), crc.Of(both); got != want {
				t.Errorf("More(Of(%q), %q) = %#x, want %#x", a, b, got, want)
			}
		}
	}
}

// P2.2: wherever a string is cut, in two or in single bytes.
func TestSumsGoOnFromEachPlace(t *testing.T) {
	b := counted()
	want := crc.Of(b)
	slow := uint32(0)
	for i := range len(b) + 1 {
		if got := crc.More(crc.Of(b[:i]), b[i:]); got != want {
			t.Errorf("cut at %d: %#x, want %#x", i, got, want)
		}
		if slow != crc.Of(b[:i]) {
			t.Errorf("%d bytes, one by one: %#x, want %#x", i, slow, crc.Of(b[:i]))
		}
		if i < len(b) {
			slow = crc.More(slow, b[i:i+1])
		}
	}
}

// turned is the string with the 32 bits from a place on xored with w; the lowest bit of a byte is ahead, and what is behind the end is left out.
func turned(b []byte, from int, w uint32) []byte {
	out := append([]byte{}, b...)
	for i := range 32 {
		if at := from + i; at < 8*len(b) {
			out[at/8] ^= byte(w>>i&1) << (at % 8)
		}
	}
	return out
}

// windows are ways in which 32 bits in a row differ: one bit, two bits, all bits up to one, and mixed ones.
func windows() []uint32 {
	l := []uint32{math.MaxUint32, 0xedb88320, 0x04c11db7, 0xdb710641, 0x55555555, 0xaaaaaaaa, 0x80000001}
	for i := range 32 {
		l = append(l, 1<<i, 1<<i-1|1<<i)
		for k := range i {
			l = append(l, 1<<i|1<<k)
		}
	}
	w := uint32(1)
	for range 200 {
		w = w*1664525 + 1013904223
		l = append(l, w|1)
	}
	return l
}

// P2.2: strings of one length that differ within 32 bits in a row. The bits of a byte are counted from its lowest one: counted from the highest one, the sum that P2.1 asks for has strings of which this does not hold.
func TestTurnedBitsAreTold(t *testing.T) {
	for _, b := range [][]byte{{0}, []byte("abcd"), make([]byte, 9), bytes.Repeat([]byte{255}, 9), []byte("what stands here")} {
		sum := crc.Of(b)
		for from := range 8 * len(b) {
			for _, w := range windows() {
				c := turned(b, from, w)
				if !bytes.Equal(b, c) && crc.Of(c) == sum {
					t.Fatalf("Of(%q) = Of(%q)", b, c)
				}
			}
		}
	}
}

// P2.2: the steps can be undone, so four bytes in a row come back from the sum: unlike ones have unlike sums.
func TestFourBytesComeBack(t *testing.T) {
	ahead, behind := []byte("ahead"), []byte("behind")
	for _, w := range windows() {
		four := []byte{byte(w), byte(w >> 8), byte(w >> 16), byte(w >> 24)}
		s := ^crc.More(crc.More(crc.Of(ahead), four), behind)
		for i := range behind {
			s = undone(s) ^ uint32(behind[len(behind)-1-i])
		}
		for range 4 {
			s = undone(s)
		}
		if got := s ^ ^crc.Of(ahead); got != w {
			t.Errorf("the bytes %#x come back as %#x", w, got)
		}
	}
}

// undone takes eight steps back: the highest bit tells whether one had gone out.
func undone(s uint32) uint32 {
	for range 8 {
		out := s >> 31
		if out == 1 {
			s ^= 0xedb88320
		}
		s = s<<1 | out
	}
	return s
}
