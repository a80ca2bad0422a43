package vint_test

import (
	"bytes"
	"math"
	"math/big"
	"strings"
	"testing"

	"topiary/api"
	"topiary/vint"
)

// The signatures that the chapter lists.
var (
	_ func([]byte, uint64) []byte                     = vint.Put
	_ func([]byte, int) (uint64, int, api.Errno)      = vint.Get
	_ func([]byte, string) []byte                     = vint.PutText
	_ func([]byte, int, int) (string, int, api.Errno) = vint.GetText
)

// written are numbers and their bytes, worked out apart from this program: the least, the greatest, and those around each power of 128.
var written = []struct {
	v uint64
	b string
}{
	{0x0, "\x00"},
	{0x1, "\x01"},
	{0x7f, "\x7f"},
	{0x80, "\x80\x01"},
	{0x81, "\x81\x01"},
	{0xff, "\xff\x01"},
	{0x100, "\x80\x02"},
	{300, "\xac\x02"},
	{0x3fff, "\xff\x7f"},
	{0x4000, "\x80\x80\x01"},
	{0x4001, "\x81\x80\x01"},
	{0x1fffff, "\xff\xff\x7f"},
	{0x200000, "\x80\x80\x80\x01"},
	{0x200001, "\x81\x80\x80\x01"},
	{0xfffffff, "\xff\xff\xff\x7f"},
	{0x10000000, "\x80\x80\x80\x80\x01"},
	{0x10000001, "\x81\x80\x80\x80\x01"},
	{0xdeadbeef, "\xef\xfd\xb6\xf5\x0d"},
	{0x7ffffffff, "\xff\xff\xff\xff\x7f"},
	{0x800000000, "\x80\x80\x80\x80\x80\x01"},
	{0x800000001, "\x81\x80\x80\x80\x80\x01"},
	{0x3ffffffffff, "\xff\xff\xff\xff\xff\x7f"},
	{0x40000000000, "\x80\x80\x80\x80\x80\x80\x01"},
	{0x40000000001, "\x81\x80\x80\x80\x80\x80\x01"},
	{0x1ffffffffffff, "\xff\xff\xff\xff\xff\xff\x7f"},
	{0x2000000000000, "\x80\x80\x80\x80\x80\x80\x80\x01"},
	{0x2000000000001, "\x81\x80\x80\x80\x80\x80\x80\x01"},
	{0xffffffffffffff, "\xff\xff\xff\xff\xff\xff\xff\x7f"},
	{0x100000000000000, "\x80\x80\x80\x80\x80\x80\x80\x80\x01"},
	{0x100000000000001, "\x81\x80\x80\x80\x80\x80\x80\x80\x01"},
	{0x112210f47de98115, "\x95\x82\xa6\xef\xc7\x9e\x84\x91\x11"},
	{0x7fffffffffffffff, "\xff\xff\xff\xff\xff\xff\xff\xff\x7f"},
	{0x8000000000000000, "\x80\x80\x80\x80\x80\x80\x80\x80\x80\x01"},
	{0x8000000000000001, "\x81\x80\x80\x80\x80\x80\x80\x80\x80\x01"},
	{0xfffffffffffffffe, "\xfe\xff\xff\xff\xff\xff\xff\xff\xff\x01"},
	{0xffffffffffffffff, "\xff\xff\xff\xff\xff\xff\xff\xff\xff\x01"},
}

// aheads are lists to put behind.
func aheads() [][]byte {
	return [][]byte{nil, {}, {0}, {0x80}, {0xff, 0xff}, []byte("ahead"), bytes.Repeat([]byte{0x81}, 40)}
}

// numbers are those written above, and all with one bit, or with all bits below one.
func numbers() []uint64 {
	var l []uint64
	for _, x := range written {
		l = append(l, x.v)
	}
	for i := range 64 {
		l = append(l, 1<<i, 1<<i-1, 1<<i+1)
	}
	return l
}

// texts are the empty one, ordinary ones, some that hold any bytes, and those whose length takes another byte more.
func texts() []string {
	l := []string{"", "a", "abc", "\x00", "\x80", "\xff\xfe\x00z", "häuser, 木"}
	for _, n := range []int{126, 127, 128, 129, 300, 16383, 16384, 16385} {
		l = append(l, strings.Repeat("x", n))
	}
	return l
}

// read works Get's answer out as the chapter's words go: first the bytes up to the one that doesn't go on, then what is wrong with them, then their worth in numbers of any size.
func read(b []byte, at int) (uint64, int, api.Errno) {
	if at < 0 || at > len(b) {
		return 0, 0, api.ErrArg
	}
	its := b[at:]
	end := 0
	for end < len(its) && its[end] >= 128 {
		end++
	}
	if end == len(its) && end < 10 {
		return 0, 0, api.ErrShort
	}
	if end > 9 || end == 9 && its[9] > 1 || end > 0 && its[end] == 0 {
		return 0, 0, api.ErrBytes
	}
	worth := new(big.Int)
	for i := end; i >= 0; i-- {
		worth.Mul(worth, big.NewInt(128))
		worth.Add(worth, big.NewInt(int64(its[i]%128)))
	}
	return worth.Uint64(), at + end + 1, api.OK
}

// holdsGet holds Get against read.
func holdsGet(t *testing.T, b []byte, at int) {
	t.Helper()
	v, next, e := vint.Get(b, at)
	wantV, wantNext, wantE := read(b, at)
	if v != wantV || next != wantNext || e != wantE {
		t.Fatalf("Get(%x, %d) = %d, %d, %d, want %d, %d, %d", b, at, v, next, e, wantV, wantNext, wantE)
	}
}

// P3.1: what is put, behind nothing and behind something.
func TestPut(t *testing.T) {
	for _, x := range written {
		for _, ahead := range aheads() {
			if got, want := string(vint.Put(ahead, x.v)), string(ahead)+x.b; got != want {
				t.Errorf("Put(%x, %d) = %x, want %x", ahead, x.v, got, want)
			}
		}
	}
}

// P3.1: the number stands alone, or with bytes ahead and behind that could be taken for its own.
func TestGet(t *testing.T) {
	for _, x := range written {
		for _, ahead := range aheads() {
			for _, behind := range []string{"", "\x00", "\x01", "\x80", "\xff\xff", "behind"} {
				b := []byte(string(ahead) + x.b + behind)
				v, next, e := vint.Get(b, len(ahead))
				if v != x.v || next != len(ahead)+len(x.b) || e != api.OK {
					t.Errorf("Get(%x, %d) = %d, %d, %d, want %d, %d, 0", b, len(ahead), v, next, e, x.v, len(ahead)+len(x.b))
				}
			}
		}
	}
}

// P3.1: what is put is read again, many numbers in a row.
func TestNumbersComeBack(t *testing.T) {
	var b []byte
	for _, v := range numbers() {
		b = vint.Put(b, v)
	}
	at := 0
	for _, v := range numbers() {
		got, next, e := vint.Get(b, at)
		if got != v || next <= at || e != api.OK {
			t.Fatalf("at %d: %d, %d, %d, want %d", at, got, next, e, v)
		}
		at = next
	}
	if at != len(b) {
		t.Errorf("%d of %d bytes are read", at, len(b))
	}
}

// P3.1: each error, with 0 and 0 beside it; a place outside is told first, whatever the bytes are.
func TestGetErrors(t *testing.T) {
	on := strings.Repeat("\x80", 9)
	full := strings.Repeat("\xff", 9)
	for _, x := range []struct {
		b    string
		at   int
		want api.Errno
	}{
		{"", -1, api.ErrArg},
		{"", 1, api.ErrArg},
		{"\x01", -1, api.ErrArg},
		{"\x01", 2, api.ErrArg},
		{"\x80\x00", 3, api.ErrArg},
		{on + "\x80", -1, api.ErrArg},
		{on + "\x80", 11, api.ErrArg},
		{"\x01", math.MinInt, api.ErrArg},
		{"\x01", math.MaxInt, api.ErrArg},
		{"\x01", math.MaxInt - 9, api.ErrArg},
		{"", 0, api.ErrShort},
		{"\x01", 1, api.ErrShort},
		{"\x80", 0, api.ErrShort},
		{"\xff", 0, api.ErrShort},
		{"\x01\xff\xff", 1, api.ErrShort},
		{on, 0, api.ErrShort},
		{full, 0, api.ErrShort},
		{on + "\x80", 1, api.ErrShort},
		{on + "\x80", 10, api.ErrShort},
		{on + "\x80", 0, api.ErrBytes},
		{on + "\x81", 0, api.ErrBytes},
		{full + "\xff", 0, api.ErrBytes},
		{"\x05" + full + "\xff", 1, api.ErrBytes},
		{on + "\x80\x01", 0, api.ErrBytes},
		{on + "\x80\x00", 0, api.ErrBytes},
		{full + full, 0, api.ErrBytes},
		{on + "\x02", 0, api.ErrBytes},
		{on + "\x03", 0, api.ErrBytes},
		{full + "\x7f", 0, api.ErrBytes},
		{"\x80\x00", 0, api.ErrBytes},
		{"\xff\x00", 0, api.ErrBytes},
		{"\xac\x82\x00", 0, api.ErrBytes},
		{on[1:] + "\x00", 0, api.ErrBytes},
		{on + "\x00", 0, api.ErrBytes},
		{full + "\x00", 0, api.ErrBytes},
		{"\x80\x00\x01", 0, api.ErrBytes},
	} {
		if v, next, e := vint.Get([]byte(x.b), x.at); v != 0 || next != 0 || e != x.want {
			t.Errorf("Get(%x, %d) = %d, %d, %d, want 0, 0, %d", x.b, x.at, v, next, e, x.want)
		}
	}
}

// P3.1: nil is an empty list.
func TestGetOfNil(t *testing.T) {
	for at, want := range map[int]api.Errno{-1: api.ErrArg, 0: api.ErrShort, 1: api.ErrArg} {
		if v, next, e := vint.Get(nil, at); v != 0 || next != 0 || e != want {
			t.Errorf("Get(nil, %d) = %d, %d, %d, want 0, 0, %d", at, v, next, e, want)
		}
	}
}

// P3.1: all strings of up to two bytes, and each byte behind those that go on, up to twelve of them.
func TestGetOfEachByte(t *testing.T) {
	for i := range 256 {
		holdsGet(t, []byte{byte(i)}, 0)
		for k := range 256 {
			holdsGet(t, []byte{byte(i), byte(k)}, 0)
			holdsGet(t, []byte{byte(i), byte(k)}, 1)
		}
		for _, c := range []byte{0x80, 0x81, 0xc0, 0xff} {
			for n := range 13 {
				b := append(bytes.Repeat([]byte{c}, n), byte(i))
				for at := range len(b) + 2 {
					holdsGet(t, b, at-1)
				}
			}
		}
	}
}

// P3.1: a number has one way to be written: what Get takes is what Put puts.
func TestOneWayToWrite(t *testing.T) {
	seed := uint64(1)
	taken := 0
	for range 20000 {
		b := make([]byte, 12)
		for i := range b {
			seed = seed*6364136223846793005 + 1442695040888963407
			b[i] = byte(seed>>33) | byte(seed>>40)&0x80
		}
		b[9] &= 0x83
		holdsGet(t, b, 0)
		if v, next, e := vint.Get(b, 0); e == api.OK {
			taken++
			if got := vint.Put(nil, v); !bytes.Equal(got, b[:next]) {
				t.Fatalf("Get takes %x, Put(nil, %d) = %x", b[:next], v, got)
			}
		}
	}
	if taken == 0 || taken == 20000 {
		t.Errorf("%d strings are taken", taken)
	}
}

// P3.2: what is put: how many bytes it has, and the text.
func TestPutText(t *testing.T) {
	for _, x := range []struct{ s, want string }{
		{"", "\x00"},
		{"a", "\x01a"},
		{"abc", "\x03abc"},
		{"\xff\x00", "\x02\xff\x00"},
		{"ä木", "\x05\xc3\xa4\xe6\x9c\xa8"},
		{strings.Repeat("y", 127), "\x7f" + strings.Repeat("y", 127)},
		{strings.Repeat("y", 128), "\x80\x01" + strings.Repeat("y", 128)},
		{strings.Repeat("y", 300), "\xac\x02" + strings.Repeat("y", 300)},
		{strings.Repeat("y", 16384), "\x80\x80\x01" + strings.Repeat("y", 16384)},
	} {
		for _, ahead := range aheads() {
			if got, want := string(vint.PutText(ahead, x.s)), string(ahead)+x.want; got != want {
				t.Errorf("PutText(%x, %q) = %x, want %x", ahead, x.s, got, want)
			}
		}
	}
}

// P3.2: what is put is read again, with as much as it has allowed and more, whatever stands ahead and behind.
func TestTextsComeBack(t *testing.T) {
	for _, s := range texts() {
		for _, ahead := range aheads() {
			b := vint.PutText(ahead, s)
			for _, behind := range []string{"", "\x00", "z"} {
				for _, most := range []int{len(s), len(s) + 1, math.MaxInt} {
					got, next, e := vint.GetText([]byte(string(b)+behind), len(ahead), most)
					if got != s || next != len(b) || e != api.OK {
						t.Errorf("%d bytes behind %x come back as %q, %d, %d", len(s), ahead, got, next, e)
					}
				}
			}
		}
	}
}

// P3.2: a row of texts.
func TestTextsInARow(t *testing.T) {
	var b []byte
	for _, s := range texts() {
		b = vint.PutText(b, s)
	}
	at := 0
	for _, s := range texts() {
		got, next, e := vint.GetText(b, at, 20000)
		if got != s || e != api.OK {
			t.Fatalf("at %d: %q, %d, want %q", at, got, e, s)
		}
		at = next
	}
	if at != len(b) {
		t.Errorf("%d of %d bytes are read", at, len(b))
	}
}

// P3.2: each error, with no text and 0 beside it; the one that is named first is told.
func TestGetTextErrors(t *testing.T) {
	on := strings.Repeat("\x80", 9)
	full := strings.Repeat("\xff", 9)
	for _, x := range []struct {
		b        string
		at, most int
		want     api.Errno
	}{
		{"\x01a", -1, 9, api.ErrArg},
		{"\x01a", 3, 9, api.ErrArg},
		{"\x01a", 3, -1, api.ErrArg},
		{"\x01a", math.MaxInt, math.MaxInt, api.ErrArg},
		{"\x01a", math.MinInt, math.MinInt, api.ErrArg},
		{"", 0, 9, api.ErrShort},
		{"", 0, -1, api.ErrShort},
		{"\x01a", 2, 9, api.ErrShort},
		{"\x80", 0, 0, api.ErrShort},
		{on, 0, -1, api.ErrShort},
		{on + "\x80", 0, 9, api.ErrBytes},
		{on + "\x02", 0, -1, api.ErrBytes},
		{"\x81\x00a", 0, 0, api.ErrBytes},
		{"\x00", 0, -1, api.ErrBig},
		{"\x00", 0, math.MinInt, api.ErrBig},
		{"\x01a", 0, 0, api.ErrBig},
		{"\x03abc", 0, 2, api.ErrBig},
		{"\x03abc", 0, -3, api.ErrBig},
		{"\x03ab", 0, 2, api.ErrBig},
		{"\x80\x01", 0, 127, api.ErrBig},
		{full + "\x01", 0, math.MaxInt, api.ErrBig},
		{full + "\x01", 0, -1, api.ErrBig},
		{full + "\x01", 0, 0, api.ErrBig},
		{on + "\x01", 0, math.MaxInt, api.ErrBig},
		{full[1:] + "\x7f", 0, math.MaxInt - 1, api.ErrBig},
		{full[1:] + "\x7f", 0, math.MaxInt, api.ErrShort},
		{full[1:] + "\x7fabc", 0, math.MaxInt, api.ErrShort},
		{"\x01", 0, 1, api.ErrShort},
		{"\x03ab", 0, 3, api.ErrShort},
		{"\x03ab", 0, math.MaxInt, api.ErrShort},
		{"q\x03ab", 1, 3, api.ErrShort},
		{"\x80\x01" + full, 0, 128, api.ErrShort},
		{"\xff\xff\xff\xff\x0fabc", 0, math.MaxInt, api.ErrShort},
	} {
		if s, next, e := vint.GetText([]byte(x.b), x.at, x.most); s != "" || next != 0 || e != x.want {
			t.Errorf("GetText(%x, %d, %d) = %q, %d, %d, want nothing, 0, %d", x.b, x.at, x.most, s, next, e, x.want)
		}
	}
}

// P3.2: a text that is cut anywhere is not read, nor one that is longer than most.
func TestTextsThatAreCut(t *testing.T) {
	for _, s := range []string{"a", "abc", strings.Repeat("x", 130)} {
		b := vint.PutText(nil, s)
		for n := range b {
			if got, next, e := vint.GetText(b[:n], 0, len(s)); got != "" || next != 0 || e != api.ErrShort {
				t.Errorf("%d of %x are read as %q, %d, %d", n, b, got, next, e)
			}
		}
		for most := range len(s) {
			if got, next, e := vint.GetText(b, 0, most); got != "" || next != 0 || e != api.ErrBig {
				t.Errorf("%x with at most %d is read as %q, %d, %d", b, most, got, next, e)
			}
		}
	}
}

// puts are both ways to put something behind a list.
func puts() map[string]func([]byte) []byte {
	return map[string]func([]byte) []byte{
		"Put of 5":      func(b []byte) []byte { return vint.Put(b, 5) },
		"Put of 300":    func(b []byte) []byte { return vint.Put(b, 300) },
		"Put of most":   func(b []byte) []byte { return vint.Put(b, math.MaxUint64) },
		"PutText of ''": func(b []byte) []byte { return vint.PutText(b, "") },
		"PutText":       func(b []byte) []byte { return vint.PutText(b, "text") },
	}
}

// P3.1, P3.2 and R3: the bytes that are handed in stay, and the room behind them too, whether it would do or not.
func TestRoomBehindStays(t *testing.T) {
	for name, put := range puts() {
		for spare := range 20 {
			for _, ahead := range aheads() {
				room := append(append([]byte{}, ahead...), bytes.Repeat([]byte{0x77}, spare)...)
				kept := bytes.Clone(room)
				put(room[:len(ahead)])
				if !bytes.Equal(room, kept) {
					t.Errorf("%s: %x became %x", name, kept, room)
				}
			}
		}
	}
}

// P3.1, P3.2 and R3: two answers behind one list share no byte behind it, nor does the room of either reach into what was handed in.
func TestAnswersStandAlone(t *testing.T) {
	for name, put := range puts() {
		room := append([]byte("ahead"), bytes.Repeat([]byte{0x77}, 40)...)
		kept := bytes.Clone(room)
		b := room[:5]
		first := put(b)
		told := string(first)
		second := put(b)
		for _, l := range [][]byte{second, put(b)} {
			behind := l[5:cap(l)]
			for i := range behind {
				behind[i] ^= 0xff
			}
		}
		if string(first) != told || !bytes.Equal(room, kept) {
			t.Errorf("%s: %x became %x, %x became %x", name, told, first, kept, room)
		}
	}
}

// P3.1, P3.2 and R3, R4: reading changes nothing, keeps nothing, and answers the same again.
func TestReadingChangesNothing(t *testing.T) {
	b := []byte("\x80\x80\x04text\x05")
	kept := bytes.Clone(b)
	for range 2 {
		if s, next, e := vint.GetText(b, 2, 4); s != "text" || next != 7 || e != api.OK {
			t.Errorf("GetText = %q, %d, %d", s, next, e)
		}
		if v, next, e := vint.Get(b, 0); v != 4<<14 || next != 3 || e != api.OK {
			t.Errorf("Get = %d, %d, %d", v, next, e)
		}
		if !bytes.Equal(b, kept) {
			t.Fatalf("%x became %x", kept, b)
		}
	}
	s, _, _ := vint.GetText(b, 2, 4)
	b[3] = 'T'
	if s != "text" {
		t.Errorf("the text became %q", s)
	}
}

// P3.1 and R3: a number behind the list's end, in its spare room, is none of its.
func TestRoomBehindIsNotRead(t *testing.T) {
	b := []byte("\x80\x80\x01abc")
	if v, next, e := vint.Get(b[:2], 0); v != 0 || next != 0 || e != api.ErrShort {
		t.Errorf("Get = %d, %d, %d", v, next, e)
	}
	b = []byte("\x03abc")
	if s, next, e := vint.GetText(b[:3], 0, 3); s != "" || next != 0 || e != api.ErrShort {
		t.Errorf("GetText = %q, %d, %d", s, next, e)
	}
}
