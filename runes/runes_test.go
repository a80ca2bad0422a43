package runes_test

import (
	"math"
	"strings"
	"testing"

	"topiary/runes"
)

// The signatures that the chapter lists.
var (
	_ func(string) bool   = runes.Valid
	_ func(string) string = runes.Clean
	_ func(string) string = runes.Lower
	_ func(byte) bool     = runes.Blank
	_ func(byte) bool     = runes.Letter
	_ func(rune) string   = runes.Put
)

// bad are the bytes of the rune fffd.
const bad = "\xef\xbf\xbd"

// written are runes and their bytes, worked out apart from this program: both ends of one, two, three and four bytes, of what is around d800 to dfff, and fffd itself.
var written = []struct {
	r rune
	b string
}{
	{0x0, "\x00"},
	{0x1, "\x01"},
	{0x41, "\x41"},
	{0x7e, "\x7e"},
	{0x7f, "\x7f"},
	{0x80, "\xc2\x80"},
	{0x81, "\xc2\x81"},
	{0xe4, "\xc3\xa4"},
	{0xff, "\xc3\xbf"},
	{0x100, "\xc4\x80"},
	{0x3ff, "\xcf\xbf"},
	{0x400, "\xd0\x80"},
	{0x7fe, "\xdf\xbe"},
	{0x7ff, "\xdf\xbf"},
	{0x800, "\xe0\xa0\x80"},
	{0x801, "\xe0\xa0\x81"},
	{0xfff, "\xe0\xbf\xbf"},
	{0x1000, "\xe1\x80\x80"},
	{0x20ac, "\xe2\x82\xac"},
	{0xcfff, "\xec\xbf\xbf"},
	{0xd000, "\xed\x80\x80"},
	{0xd7fe, "\xed\x9f\xbe"},
	{0xd7ff, "\xed\x9f\xbf"},
	{0xe000, "\xee\x80\x80"},
	{0xe001, "\xee\x80\x81"},
	{0xfefe, "\xef\xbb\xbe"},
	{0xfeff, "\xef\xbb\xbf"},
	{0xfffc, "\xef\xbf\xbc"},
	{0xfffd, "\xef\xbf\xbd"},
	{0xfffe, "\xef\xbf\xbe"},
	{0xffff, "\xef\xbf\xbf"},
	{0x10000, "\xf0\x90\x80\x80"},
	{0x10001, "\xf0\x90\x80\x81"},
	{0x1d11e, "\xf0\x9d\x84\x9e"},
	{0x3ffff, "\xf0\xbf\xbf\xbf"},
	{0x40000, "\xf1\x80\x80\x80"},
	{0xfffff, "\xf3\xbf\xbf\xbf"},
	{0x100000, "\xf4\x80\x80\x80"},
	{0x10fffe, "\xf4\x8f\xbf\xbe"},
	{0x10ffff, "\xf4\x8f\xbf\xbf"},
}

// wrong are strings none of whose bytes begins a rune: forms that are too long, cut, of d800 to dfff, above 10ffff, and bytes that stand in no form.
var wrong = []string{
	"\x80", "\xbf", "\x80\xbf\x80", // those that only go on
	"\xc0\x80", "\xc0\x8d", "\xc0\xaf", "\xc1\x81", "\xc1\xbf", // 0, 13, 2f, 41, 7f in two bytes
	"\xe0\x80\x80", "\xe0\x80\x8d", "\xe0\x81\xbf", "\xe0\x9f\xbf", // up to 7ff in three
	"\xf0\x80\x80\x80", "\xf0\x80\x80\x8d", "\xf0\x80\x9f\xbf", "\xf0\x8f\xbf\xbf", "\xf0\x8f\xbf\xbd", // up to ffff in four
	"\xf8\x80\x80\x80\x80", "\xf8\x88\x80\x80\x80", "\xfb\xbf\xbf\xbf\xbf", "\xfc\x84\x80\x80\x80\x80", "\xfd\xbf\xbf\xbf\xbf\xbf", // five and six
	"\xfe", "\xff", "\xff\xfe", "\xfe\x83\xbf\xbf\xbf\xbf\xbf",
	"\xc2", "\xdf", "\xe0", "\xe0\xa0", "\xe2\x82", "\xef\xbf", "\xef", "\xf0", "\xf0\x90", "\xf0\x90\x80", "\xf4\x8f\xbf", // cut
	"\xed\xa0\x80", "\xed\xaf\xbf", "\xed\xb0\x80", "\xed\xbf\xbf", "\xed\xa0\x80\xed\xb0\x80", // d800 to dfff
	"\xf4\x90\x80\x80", "\xf4\xbf\xbf\xbf", "\xf5\x80\x80\x80", "\xf7\xbf\xbf\xbf", // above 10ffff
}

// notRunes are numbers that are none.
var notRunes = []rune{
	math.MinInt32, math.MinInt32 + 1, -0x110000, -0x10ffff, -0xfffd, -65536, -256, -65, -2, -1,
	0xd800, 0xd801, 0xdabc, 0xdbff, 0xdc00, 0xdffe, 0xdfff,
	0x110000, 0x110001, 0x1fffff, 0x200000, 0x110000 + 0x41, 1<<24 + 0x41, math.MaxInt32 - 1, math.MaxInt32,
}

// isRune says whether a number is a rune's.
func isRune(n int) bool {
	return n >= 0 && n <= 0x10ffff && (n < 0xd800 || n > 0xdfff)
}

// shape are the bytes of a rune, by divisions.
func shape(n int) string {
	switch {
	case n < 128:
		return string([]byte{byte(n)})
	case n < 2048:
		return string([]byte{byte(192 + n/64), byte(128 + n%64)})
	case n < 65536:
		return string([]byte{byte(224 + n/4096), byte(128 + n/64%64), byte(128 + n%64)})
	}
	return string([]byte{byte(240 + n/262144), byte(128 + n/4096%64), byte(128 + n/64%64), byte(128 + n%64)})
}

// begins is the rune at the beginning of a string and how many bytes it has, 0 if there is none: read in whatever form it has, then held against its shape.
func begins(s string) (n, size int) {
	switch c := int(s[0]); {
	case c < 128:
		return c, 1
	case c >= 192 && c < 224:
		n, size = c-192, 2
	case c >= 224 && c < 240:
		n, size = c-224, 3
	case c >= 240 && c < 248:
		n, size = c-240, 4
	default:
		return 0, 0
	}
	if size > len(s) {
		return 0, 0
	}
	for i := 1; i < size; i++ {
		if s[i] < 128 || s[i] > 191 {
			return 0, 0
		}
		n = n*64 + int(s[i]) - 128
	}
	if !isRune(n) || shape(n) != s[:size] {
		return 0, 0
	}
	return n, size
}

// wantClean works Clean's answer out as the chapter's words go, and whether the string is runes alone.
func wantClean(s string) (clean string, valid bool) {
	valid = true
	var b strings.Builder
	for i := 0; i < len(s); {
		n, size := begins(s[i:])
		switch {
		case size == 0:
			valid = false
			size = 1
			b.WriteString(bad)
		case n == 0:
			b.WriteString(bad)
		case n == 13 && i+1 < len(s) && s[i+1] == 10:
			size = 2
			b.WriteByte(10)
		case n == 13:
			b.WriteByte(10)
		default:
			b.WriteString(s[i : i+size])
		}
		i += size
	}
	return b.String(), valid
}

// holds holds Valid and Clean of a string against the above, and against what follows (P4.3).
func holds(t *testing.T, s string) {
	t.Helper()
	clean, valid := wantClean(s)
	if got := runes.Valid(s); got != valid {
		t.Fatalf("Valid(%x) = %t, want %t", s, got, valid)
	}
	got := runes.Clean(s)
	if got != clean {
		t.Fatalf("Clean(%x) = %x, want %x", s, got, clean)
	}
	if !runes.Valid(got) {
		t.Fatalf("Clean(%x) = %x, which is not Valid", s, got)
	}
	if again := runes.Clean(got); again != got {
		t.Fatalf("Clean(%x) = %x, and Clean of that = %x", s, got, again)
	}
}

// P4.1: a rune's bytes, at the ends of each length.
func TestPut(t *testing.T) {
	for _, x := range written {
		if got := runes.Put(x.r); got != x.b {
			t.Errorf("Put(%#x) = %x, want %x", x.r, got, x.b)
		}
	}
}

// P4.1: what is no rune has the bytes of fffd.
func TestPutOfNone(t *testing.T) {
	for _, r := range notRunes {
		if got := runes.Put(r); got != bad {
			t.Errorf("Put(%#x) = %x, want %x", r, got, bad)
		}
	}
}

// P4.1: each number from below 0 to above 10ffff; each rune's bytes are Valid, and come through Clean unless Clean names them.
func TestPutOfEach(t *testing.T) {
	for n := -300; n < 0x110300; n++ {
		want := bad
		if isRune(n) {
			want = shape(n)
		}
		got := runes.Put(rune(n))
		if got != want {
			t.Fatalf("Put(%#x) = %x, want %x", n, got, want)
		}
		if !runes.Valid(got) {
			t.Fatalf("Put(%#x) = %x, which is not Valid", n, got)
		}
		if clean := runes.Clean(got); n != 0 && n != 13 && clean != got {
			t.Fatalf("Clean(%x) = %x", got, clean)
		}
	}
}

// P4.1: runes alone are Valid: each of those above, each two of them, all in a row, and the empty text.
func TestValid(t *testing.T) {
	all := ""
	for _, x := range written {
		all += x.b
		for _, y := range written {
			if !runes.Valid(x.b + y.b) {
				t.Errorf("Valid(%x) = false", x.b+y.b)
			}
		}
		if !runes.Valid(x.b) {
			t.Errorf("Valid(%x) = false", x.b)
		}
	}
	for _, s := range []string{"", all, "\x00", "\r\n", "\r", bad, bad + bad, "aß€𝄞 \x00\r"} {
		if !runes.Valid(s) {
			t.Errorf("Valid(%x) = false", s)
		}
	}
}

// P4.1: one wrong form is enough, wherever it stands: alone, behind, ahead of and between runes, fffd itself among them.
func TestNotValid(t *testing.T) {
	for _, w := range wrong {
		for _, x := range written {
			for _, s := range []string{w, x.b + w, w + x.b, x.b + w + x.b, bad + w, w + bad, bad + w + x.b} {
				if runes.Valid(s) {
					t.Errorf("Valid(%x) = true", s)
				}
			}
		}
	}
}

// P4.1 and P4.2: a rune that is cut anywhere is none, whatever comes behind it that doesn't go on.
func TestRunesThatAreCut(t *testing.T) {
	for _, x := range written {
		for n := 1; n < len(x.b); n++ {
			for _, behind := range []string{"", "a", "\n", "\xc3\xa4", bad, "\xff", "\xf0"} {
				s := x.b[:n] + behind
				if runes.Valid(s) {
					t.Errorf("Valid(%x) = true", s)
				}
				want := strings.Repeat(bad, n)
				if behind == "\xff" || behind == "\xf0" {
					want += bad
				} else {
					want += behind
				}
				if got := runes.Clean(s); got != want {
					t.Errorf("Clean(%x) = %x, want %x", s, got, want)
				}
			}
		}
	}
}

// P4.2: the chapter's example, ordinary texts, and each edge that it names.
func TestClean(t *testing.T) {
	for _, x := range []struct{ s, want string }{
		{"", ""},
		{"a\r\nb", "a\nb"},
		{"<p>plain</p>\n", "<p>plain</p>\n"},
		{"häuser, 木, 𝄞", "häuser, 木, 𝄞"},
		{"\x00", bad},
		{"\x00a", bad + "a"},
		{"a\x00b", "a" + bad + "b"},
		{"a\x00", "a" + bad},
		{"\x00\x00\x00", bad + bad + bad},
		{"\r", "\n"},
		{"\ra", "\na"},
		{"a\rb", "a\nb"},
		{"a\r", "a\n"},
		{"\r\r\r", "\n\n\n"},
		{"\n", "\n"},
		{"\n\n", "\n\n"},
		{"\r\n", "\n"},
		{"\r\na", "\na"},
		{"a\r\n", "a\n"},
		{"\r\n\r\n", "\n\n"},
		{"\r\r\n", "\n\n"},
		{"\r\n\r", "\n\n"},
		{"\r\n\n", "\n\n"},
		{"\n\r", "\n\n"},
		{"\n\r\n", "\n\n"},
		{"\n\r\n\r", "\n\n\n"},
		{"\r\r\n\n\r", "\n\n\n\n"},
		{"\r\x00\n", "\n" + bad + "\n"},
		{"\x00\r\n\x00", bad + "\n" + bad},
		{"\r\xff\n", "\n" + bad + "\n"},
		{"\xff\r\n\xff", bad + "\n" + bad},
		{"\xe2\x82\r\n", bad + bad + "\n"},
		{"\r \n", "\n \n"},
		{"\xff", bad},
		{"\xff\xfe", bad + bad},
		{"\xffa", bad + "a"},
		{"a\xff", "a" + bad},
		{"\xff\xe2\x82\xac", bad + "\xe2\x82\xac"},
		{"\xe2\xe2\x82\xac", bad + "\xe2\x82\xac"},
		{"\xe2\x82\xe2\x82\xac", bad + bad + "\xe2\x82\xac"},
		{"\xe2\x82\xac\x82", "\xe2\x82\xac" + bad},
		{"\xf0\x9d\x84\xc3\xa4", bad + bad + bad + "\xc3\xa4"},
		{"\xf0\xe2\x82\xac", bad + "\xe2\x82\xac"},
		{"\xed\xa0\x80a", bad + bad + bad + "a"},
		{"\xc0\x8d\x0a", bad + bad + "\n"},
		{bad, bad},
		{bad + bad, bad + bad},
		{"a" + bad + "\xff" + bad, "a" + bad + bad + bad},
		{"\t\x01\x0b\x0c\x1f \x7f", "\t\x01\x0b\x0c\x1f \x7f"},
		{"\xc2\x80\xc2\x85\xe2\x80\xa8", "\xc2\x80\xc2\x85\xe2\x80\xa8"},
		{"\xef\xbb\xbfa", "\xef\xbb\xbfa"},
	} {
		if got := runes.Clean(x.s); got != x.want {
			t.Errorf("Clean(%x) = %x, want %x", x.s, got, x.want)
		}
		holds(t, x.s)
	}
}

// P4.2: each byte of a wrong form is a fffd of its own; the runes around it stay.
func TestCleanOfWrongForms(t *testing.T) {
	for _, w := range wrong {
		bads := strings.Repeat(bad, len(w))
		for _, x := range written {
			if x.r == 0 {
				continue
			}
			for s, want := range map[string]string{w: bads, w + x.b: bads + x.b, x.b + w: x.b + bads, w + x.b + w: bads + x.b + bads} {
				if got := runes.Clean(s); got != want {
					t.Errorf("Clean(%x) = %x, want %x", s, got, want)
				}
			}
		}
	}
}

// P4.2: runes that Clean doesn't name stay, one by one and in a row.
func TestCleanLeavesRunes(t *testing.T) {
	all := ""
	for _, x := range written {
		if x.r != 0 {
			all += x.b
			if got := runes.Clean(x.b); got != x.b {
				t.Errorf("Clean(%x) = %x", x.b, got)
			}
		}
	}
	if got := runes.Clean(all); got != all {
		t.Errorf("Clean(%x) = %x", all, got)
	}
}

// P4.1, P4.2 and P4.3: all strings of up to two bytes.
func TestEachTwoBytes(t *testing.T) {
	holds(t, "")
	for i := range 256 {
		holds(t, string([]byte{byte(i)}))
		for k := range 256 {
			holds(t, string([]byte{byte(i), byte(k)}))
		}
	}
}

// P4.1, P4.2 and P4.3: all strings of three and four bytes that are ends of what a byte can mean.
func TestEachFourEnds(t *testing.T) {
	ends := []byte{0, 10, 13, 'a', 0x7f, 0x80, 0x8f, 0x90, 0x9f, 0xa0, 0xbd, 0xbf, 0xc1, 0xc2, 0xdf, 0xe0, 0xe1, 0xed, 0xef, 0xf0, 0xf4, 0xf5}
	b := make([]byte, 4)
	for _, b[0] = range ends {
		for _, b[1] = range ends {
			for _, b[2] = range ends {
				holds(t, string(b[:3]))
				for _, b[3] = range ends {
					holds(t, string(b))
				}
			}
		}
	}
}

// P4.1, P4.2 and P4.3: long strings of any bytes, and of such as are often wrong or ends of lines.
func TestManyBytes(t *testing.T) {
	seed := uint64(1)
	next := func(n int) int {
		seed = seed*6364136223846793005 + 1442695040888963407
		return int(seed>>33) % n
	}
	pieces := []string{"\r", "\n", "\x00", "a", bad, "\xff", "\xe2", "\x82", "\xac", "\xe2\x82\xac", "\xf0\x9d\x84\x9e", "\xed\xa0\x80"}
	for n := range 600 {
		whole := make([]byte, n)
		some := ""
		for i := range whole {
			whole[i] = byte(next(256))
			some += pieces[next(len(pieces))]
		}
		holds(t, string(whole))
		holds(t, some)
	}
}

// P4.2: each byte, alone and between letters; a byte that is no letter of these stays, be it part of a rune or none.
func TestLowerOfEachByte(t *testing.T) {
	for i := range 256 {
		small := byte(i)
		if i >= 65 && i <= 90 {
			small = byte(i + 32)
		}
		for _, x := range [][2]string{{"", ""}, {"A", "a"}, {"z", "z"}, {"\xc3", "\xc3"}, {"\xff", "\xff"}} {
			s := x[0] + string([]byte{byte(i)}) + x[0]
			want := x[1] + string([]byte{small}) + x[1]
			if got := runes.Lower(s); got != want {
				t.Errorf("Lower(%x) = %x, want %x", s, got, want)
			}
		}
	}
}

// P4.2: texts; letters beyond Z stay, those whose small form is one of a to z too.
func TestLower(t *testing.T) {
	for s, want := range map[string]string{
		"":                              "",
		"DIV":                           "div",
		"TextArea":                      "textarea",
		"already small":                 "already small",
		"ABCDEFGHIJKLMNOPQRSTUVWXYZ":    "abcdefghijklmnopqrstuvwxyz",
		"@AZ[`az{":                      "@az[`az{",
		"ÄÀß木":                          "ÄÀß木",
		"\u212aK\u0130I":                "\u212ak\u0130i",
		"\xffA\xc3Z\x00Q\r\n":           "\xffa\xc3z\x00q\r\n",
		strings.Repeat("Ab\xc1", 10000): strings.Repeat("ab\xc1", 10000),
	} {
		for range 2 {
			if got := runes.Lower(s); got != want {
				t.Errorf("Lower(%x) = %x, want %x", s, got, want)
			}
		}
		if got := runes.Lower(want); got != want {
			t.Errorf("Lower(%x) = %x", want, got)
		}
	}
}

// P4.2: each byte.
func TestBlank(t *testing.T) {
	for i := range 256 {
		want := strings.Contains("\x09\x0a\x0c\x20", string([]byte{byte(i)}))
		if got := runes.Blank(byte(i)); got != want {
			t.Errorf("Blank(%d) = %t, want %t", i, got, want)
		}
	}
}

// P4.2: each byte.
func TestLetter(t *testing.T) {
	const letters = "abcdefghijklmnopqrstuvwxyzABCDEFGHIJKLMNOPQRSTUVWXYZ"
	for i := range 256 {
		want := strings.Contains(letters, string([]byte{byte(i)}))
		if got := runes.Letter(byte(i)); got != want {
			t.Errorf("Letter(%d) = %t, want %t", i, got, want)
		}
	}
}

// P4.3: on a source as long as one may be, of each rune above and each wrong form, again and again.
func TestCleanOfLong(t *testing.T) {
	one := "\r\n\r\x00"
	for _, x := range written {
		one += x.b
	}
	for _, w := range wrong {
		one += "\r" + w
	}
	for len(one) < 1<<13 {
		one += one
	}
	holds(t, one)
}
