package hash_test

import (
	"strings"
	"testing"

	"topiary/bits"
	"topiary/hash"
)

// eight is bits' number of eight bytes.
func eight(l ...byte) uint64 {
	var b [8]byte
	for i, c := range l {
		b[i] = c
	}
	return bits.Of(b)
}

// P18.1: Text, step by step, of texts of each length that is named, bytes 0 at the end and bytes from 128 up.
func TestText(t *testing.T) {
	whole := eight('a', 'b', 'c', 'd', 'e', 'f', 'g', 'h')
	next := eight('i', 'j', 'k', 'l', 'm', 'n', 'o', 'p')
	for _, c := range []struct {
		s    string
		want uint64
	}{
		{"", 0},
		{"a", bits.Mix(1, 'a')},
		{"ab", bits.Mix(2, eight('a', 'b'))},
		{"abc", bits.Mix(3, eight('a', 'b', 'c'))},
		{"abcd", bits.Mix(4, eight('a', 'b', 'c', 'd'))},
		{"abcde", bits.Mix(5, eight('a', 'b', 'c', 'd', 'e'))},
		{"abcdef", bits.Mix(6, eight('a', 'b', 'c', 'd', 'e', 'f'))},
		{"abcdefg", bits.Mix(7, eight('a', 'b', 'c', 'd', 'e', 'f', 'g'))},
		{"abcdefgh", bits.Mix(8, whole)},
		{"abcdefghi", bits.Mix(bits.Mix(9, whole), 'i')},
		{"abcdefghijklmno", bits.Mix(bits.Mix(15, whole), eight('i', 'j', 'k', 'l', 'm', 'n', 'o'))},
		{"abcdefghijklmnop", bits.Mix(bits.Mix(16, whole), next)},
		{"abcdefghijklmnopq", bits.Mix(bits.Mix(bits.Mix(17, whole), next), 'q')},
		{"\x00", bits.Mix(1, 0)},
		{"a\x00", bits.Mix(2, 'a')},
		{"\x00a", bits.Mix(2, eight(0, 'a'))},
		{"abcdefg\x00", bits.Mix(8, eight('a', 'b', 'c', 'd', 'e', 'f', 'g'))},
		{"abcdefgh\x00", bits.Mix(bits.Mix(9, whole), 0)},
		{"abcdefgh\x00\x00\x00\x00\x00\x00\x00\x00", bits.Mix(bits.Mix(16, whole), 0)},
		{"\x80", bits.Mix(1, 0x80)},
		{"\xff\xff", bits.Mix(2, 0xffff)},
		{"\xff\xff\xff\xff\xff\xff\xff\xff\xff", bits.Mix(bits.Mix(9, 1<<64-1), 0xff)},
		{"ü€", bits.Mix(5, eight(0xc3, 0xbc, 0xe2, 0x82, 0xac))},
		{"abcdefg€", bits.Mix(bits.Mix(10, eight('a', 'b', 'c', 'd', 'e', 'f', 'g', 0xe2)), eight(0x82, 0xac))},
	} {
		if got := hash.Text(c.s); got != c.want {
			t.Errorf("%q: %x, want %x", c.s, got, c.want)
		}
	}
}

// P18.1: Text of some texts, as numbers: patches that were made name trees by these.
func TestTextStays(t *testing.T) {
	for s, want := range map[string]uint64{
		"":                                     0,
		"a":                                    0x8ec1d5ceaa66d2c6,
		"abcdefg":                              0xb01aa1e6d0b7939b,
		"abcdefgh":                             0x64c3a635020aca2f,
		"abcdefghi":                            0x2d4e72d31561e38,
		"\x00":                                 0xc778d8ef4f1bbcde,
		strings.Repeat("\x00", 8):              0x3bc6c77bf8dde6e6,
		"\xff\xff\xff\xff\xff\xff\xff\xff\xff": 0xeb444d710112e3d2,
		strings.Repeat("x", 4096):              0x545b429f09e2270e,
	} {
		if got := hash.Text(s); got != want {
			t.Errorf("%.20q: %x, want %x", s, got, want)
		}
	}
}

// P18.1: Text of all texts of up to 40 bytes that have one byte in them at one place, and another one everywhere else.
func TestTextPlaces(t *testing.T) {
	for n := range 41 {
		for place := range n {
			for _, c := range []byte{0, 1, 'a', 0x7f, 0x80, 0xff} {
				for _, other := range []string{"\x00", "b", "\xff"} {
					b := []byte(strings.Repeat(other, n))
					b[place] = c
					wantText(t, string(b))
				}
			}
		}
	}
}

// P18.1: Text of long texts, and of each piece of a drawn one.
func TestTextLong(t *testing.T) {
	for _, n := range []int{255, 256, 257, 4095, 4096, 4097, 1<<16 - 1, 1 << 16, 1<<20 + 3} {
		for _, c := range []string{"\x00", "x", "\xff"} {
			wantText(t, strings.Repeat(c, n))
		}
	}
	seed := uint64(18)
	s := ""
	for len(s) < 100 {
		s += drawnText(&seed)
	}
	for from := range s {
		for to := from; to <= len(s); to++ {
			wantText(t, s[from:to])
		}
	}
}

// P18.1: texts of noughts, and with noughts behind them, are told apart by their lengths.
func TestTextNoughts(t *testing.T) {
	for _, s := range []string{"", "a", "\xff", "abcdefgh", "abcdefghi"} {
		seen := map[uint64]int{}
		for n := range 90 {
			x := s + strings.Repeat("\x00", n)
			wantText(t, x)
			if was, ok := seen[hash.Text(x)]; ok {
				t.Errorf("%q with %d and %d noughts behind has one number", s, was, n)
			}
			seen[hash.Text(x)] = n
		}
	}
}

// P18.1, P18.2: unlike texts may have one number: how many bytes there are is xored with the first eight. A number passes by what is unlike, it never tells what is the same.
func TestTextUnlikeAsOne(t *testing.T) {
	for _, c := range []struct {
		a, b string
		one  bool
	}{
		{"b", "a\x00", true},     // 1^'b' is 2^'a'
		{"abc", "fbc\x00", true}, // 3^'a' is 4^'f'
		{"abc", "ebc\x00", false},
		{"abc", "fbd\x00", false},
		{"", "a" + strings.Repeat("\x00", 96), true}, // 97 is 'a'
		{"", "a" + strings.Repeat("\x00", 95), false},
	} {
		if got := hash.Text(c.a) == hash.Text(c.b); got != c.one {
			t.Errorf("%q and %q have one number: %t", c.a, c.b, got)
		}
		if got := hash.Key(text(c.a)) == hash.Key(text(c.b)); got != c.one {
			t.Errorf("%q and %q as Texts have one number: %t", c.a, c.b, got)
		}
	}
}

// wantText holds Text against the second reading.
func wantText(t *testing.T, s string) {
	t.Helper()
	if got, want := hash.Text(s), secondText(s); got != want {
		t.Errorf("%.40q, %d bytes: %x, want %x", s, len(s), got, want)
	}
}
