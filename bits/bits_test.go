package bits_test

import (
	"math"
	"testing"

	"topiary/bits"
)

// The signatures that the chapter lists.
var (
	_ func(uint64, int) uint64    = bits.Turn
	_ func(uint64, uint64) uint64 = bits.Mix
	_ func(uint64) uint32         = bits.Low
	_ func(uint64) uint32         = bits.High
	_ func(uint32, uint32) uint64 = bits.Join
	_ func(uint64, int) int64     = bits.Signed
	_ func(uint64) [8]byte        = bits.Bytes
	_ func([8]byte) uint64        = bits.Of
)

const top = uint64(1) << 63

// numbers are ordinary ones, the lowest and the highest, and each with one bit alone, one bit away, and all bits up to one.
func numbers() []uint64 {
	l := []uint64{0, 1, 2, 3, 255, 256, 0x0123456789abcdef, 0xfedcba9876543210, 0xdeadbeefcafebabe, math.MaxInt64, top, math.MaxUint64 - 1, math.MaxUint64}
	for i := range 64 {
		one := uint64(1) << i
		l = append(l, one, ^one, one-1)
	}
	return l
}

// turned moves one bit at a time.
func turned(v uint64, n int) uint64 {
	out := uint64(0)
	for i := range 64 {
		if v>>i&1 == 1 {
			to := ((i+n%64)%64 + 64) % 64
			out |= 1 << to
		}
	}
	return out
}

// P1.1
func TestTurnExamples(t *testing.T) {
	for _, x := range []struct {
		v    uint64
		n    int
		want uint64
	}{
		{1, -1, top},
		{1, 0, 1},
		{1, 1, 2},
		{1, 63, top},
		{1, 64, 1},
		{1, 65, 2},
		{1, -64, 1},
		{1, -65, top},
		{top, 1, 1},
		{top, -63, 1},
		{0x0123456789abcdef, 4, 0x123456789abcdef0},
		{0x0123456789abcdef, -4, 0xf0123456789abcde},
		{0x0123456789abcdef, 32, 0x89abcdef01234567},
		{0x0123456789abcdef, 1000*64 + 8, 0x23456789abcdef01},
		{0x0123456789abcdef, -1000*64 + 8, 0x23456789abcdef01},
		{0x0123456789abcdef, math.MaxInt, 0x8091a2b3c4d5e6f7},
		{0x0123456789abcdef, math.MinInt, 0x0123456789abcdef},
		{0x0123456789abcdef, math.MinInt + 1, 0x02468acf13579bde},
		{0, 17, 0},
		{math.MaxUint64, 17, math.MaxUint64},
	} {
		if got := bits.Turn(x.v, x.n); got != x.want {
			t.Errorf("Turn(%#x, %d) = %#x, want %#x", x.v, x.n, got, x.want)
		}
	}
}

// P1.1
func TestTurnMovesEachBit(t *testing.T) {
	places := []int{math.MinInt, math.MinInt + 1, math.MinInt32, math.MaxInt32, math.MaxInt - 1, math.MaxInt}
	for n := -200; n <= 200; n++ {
		places = append(places, n)
	}
	for _, v := range numbers() {
		for _, n := range places {
			if got, want := bits.Turn(v, n), turned(v, n); got != want {
				t.Fatalf("Turn(%#x, %d) = %#x, want %#x", v, n, got, want)
			}
		}
	}
}

// P1.1
func TestHalves(t *testing.T) {
	for _, x := range []struct {
		v         uint64
		high, low uint32
	}{
		{0, 0, 0},
		{1, 0, 1},
		{math.MaxUint32, 0, math.MaxUint32},
		{1 << 32, 1, 0},
		{0x0123456789abcdef, 0x01234567, 0x89abcdef},
		{top, 1 << 31, 0},
		{top | 1<<31, 1 << 31, 1 << 31},
		{math.MaxUint64, math.MaxUint32, math.MaxUint32},
	} {
		if got := bits.Low(x.v); got != x.low {
			t.Errorf("Low(%#x) = %#x, want %#x", x.v, got, x.low)
		}
		if got := bits.High(x.v); got != x.high {
			t.Errorf("High(%#x) = %#x, want %#x", x.v, got, x.high)
		}
		if got := bits.Join(x.high, x.low); got != x.v {
			t.Errorf("Join(%#x, %#x) = %#x, want %#x", x.high, x.low, got, x.v)
		}
	}
}

// P1.1
func TestJoinIsBack(t *testing.T) {
	for _, v := range numbers() {
		if got := bits.Join(bits.High(v), bits.Low(v)); got != v {
			t.Errorf("Join of the halves of %#x = %#x", v, got)
		}
	}
}

// P1.1
func TestSignedExamples(t *testing.T) {
	for _, x := range []struct {
		v    uint64
		n    int
		want int64
	}{
		{255, 8, -1},
		{255, 9, 255},
		{254, 8, -2},
		{128, 8, -128},
		{127, 8, 127},
		{0xabc80, 8, -128},
		{0xabc7f, 8, 127},
		{1, 1, -1},
		{2, 1, 0},
		{1, 2, 1},
		{2, 2, -2},
		{math.MaxUint64, 63, -1},
		{1 << 62, 63, -1 << 62},
		{1 << 62, 64, 1 << 62},
		{math.MaxInt64, 64, math.MaxInt64},
		{top, 64, math.MinInt64},
		{top, 63, 0},
		{math.MaxUint64, 64, -1},
		{0, 64, 0},
	} {
		if got := bits.Signed(x.v, x.n); got != x.want {
			t.Errorf("Signed(%#x, %d) = %d, want %d", x.v, x.n, got, x.want)
		}
	}
}

// P1.1: an n below 1 is 1, one above 64 is 64.
func TestSignedCutsItsCount(t *testing.T) {
	for _, v := range numbers() {
		one, all := -int64(v&1), int64(v)
		for _, n := range []int{1, 0, -1, -2, -63, -64, -65, math.MinInt32, math.MinInt} {
			if got := bits.Signed(v, n); got != one {
				t.Errorf("Signed(%#x, %d) = %d, want %d", v, n, got, one)
			}
		}
		for _, n := range []int{64, 65, 66, 127, 128, 129, math.MaxInt32, math.MaxInt} {
			if got := bits.Signed(v, n); got != all {
				t.Errorf("Signed(%#x, %d) = %d, want %d", v, n, got, all)
			}
		}
	}
}

// P1.1: the highest bit counts below 0, all others above.
func TestSignedCountsEachBit(t *testing.T) {
	for _, v := range numbers() {
		for n := 1; n <= 64; n++ {
			want := -int64(v>>(n-1)&1) << (n - 1)
			for i := range n - 1 {
				want += int64(v>>i&1) << i
			}
			if got := bits.Signed(v, n); got != want {
				t.Fatalf("Signed(%#x, %d) = %d, want %d", v, n, got, want)
			}
		}
	}
}

// P1.1
func TestBytesExamples(t *testing.T) {
	for _, x := range []struct {
		v uint64
		b [8]byte
	}{
		{0, [8]byte{}},
		{1, [8]byte{1}},
		{256, [8]byte{0, 1}},
		{top, [8]byte{0, 0, 0, 0, 0, 0, 0, 128}},
		{0x0123456789abcdef, [8]byte{0xef, 0xcd, 0xab, 0x89, 0x67, 0x45, 0x23, 0x01}},
		{math.MaxUint64, [8]byte{255, 255, 255, 255, 255, 255, 255, 255}},
	} {
		if got := bits.Bytes(x.v); got != x.b {
			t.Errorf("Bytes(%#x) = %v, want %v", x.v, got, x.b)
		}
		if got := bits.Of(x.b); got != x.v {
			t.Errorf("Of(%v) = %#x, want %#x", x.b, got, x.v)
		}
	}
}

// P1.1
func TestOfIsBack(t *testing.T) {
	for _, v := range numbers() {
		if got := bits.Of(bits.Bytes(v)); got != v {
			t.Errorf("Of(Bytes(%#x)) = %#x", v, got)
		}
	}
	for i := range 8 {
		for c := range 256 {
			var b [8]byte
			b[i] = byte(c)
			if got := bits.Bytes(bits.Of(b)); got != b {
				t.Errorf("Bytes(Of(%v)) = %v", b, got)
			}
		}
	}
}

// P1.2: the numbers were worked out apart from this program.
func TestMixExamples(t *testing.T) {
	for _, x := range []struct {
		h, v, want uint64
	}{
		{0, 0, 0},
		{0, 1, 0xc778d8ef4f1bbcde},
		{1, 0, 0xc778d8ef4f1bbcde},
		{0, math.MaxUint64, 0xc778d8efb0e44322},
		{math.MaxUint64, 0, 0xc778d8efb0e44322},
		{math.MaxUint64, math.MaxUint64, 0},
		{0, top, 0x40000002},
		{top, 1, 0xc778d8ef0f1bbcdc},
		{0x0123456789abcdef, 0xfedcba9876543210, 0xc778d8efb0e44322},
		{42, 0xdeadbeef, 0x095addb585e2fa94},
		{0x0123456789abcdef, 7, 0x6bcf6c905c87a9d0},
	} {
		if got := bits.Mix(x.h, x.v); got != x.want {
			t.Errorf("Mix(%#x, %#x) = %#x, want %#x", x.h, x.v, got, x.want)
		}
	}
}

// unmixed undoes Mix's steps, the last one first: what h xored with v was.
func unmixed(m uint64) uint64 {
	x := turned(m, -31)
	x ^= x>>29 ^ x>>58
	back := uint64(1)
	for range 6 {
		back *= 2 - 0x9e3779b97f4a7c15*back
	}
	return x * back
}

// P1.3: either number comes back from the other one and the result, so unlike ones have unlike results.
func TestMixComesBack(t *testing.T) {
	l := numbers()
	for _, h := range l {
		for _, v := range l {
			m := bits.Mix(h, v)
			if unmixed(m)^v != h || unmixed(m)^h != v {
				t.Fatalf("Mix(%#x, %#x) = %#x does not come back", h, v, m)
			}
		}
	}
}

// P1.3
func TestMixKeepsUnlikeNumbersUnlike(t *testing.T) {
	for _, one := range []uint64{0, 7, top, math.MaxUint64} {
		byH, byV := map[uint64]uint64{}, map[uint64]uint64{}
		see := func(x uint64) {
			m := bits.Mix(x, one)
			if y, ok := byH[m]; ok && y != x {
				t.Fatalf("Mix(%#x, %#x) = Mix(%#x, %#x)", x, one, y, one)
			}
			byH[m] = x
			m = bits.Mix(one, x)
			if y, ok := byV[m]; ok && y != x {
				t.Fatalf("Mix(%#x, %#x) = Mix(%#x, %#x)", one, x, one, y)
			}
			byV[m] = x
		}
		for i := range uint64(5000) {
			see(i)
			see(i << 20)
			see(i << 51)
			see(^i)
		}
	}
}
