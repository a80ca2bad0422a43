package token_test

import (
	"slices"
	"strconv"
	"strings"
	"testing"

	"topiary/api"
	"topiary/token"
)

// P10.3: the chapter's example.
func TestTagExample(t *testing.T) {
	wantNext(t, "<A b=1 B=2>", 0, "", is(start("a", "b", "1"), 11))
}

// P10.3: a tag's name: in any case, as far as it goes, with the signs that count as `_`.
func TestTagName(t *testing.T) {
	for _, x := range []struct {
		inside, name string
		attrs        []string
	}{
		{"p", "p", nil}, {"P", "p", nil}, {"TextArea", "textarea", nil}, {"h1", "h1", nil}, {"x-Y:z.9", "x-y:z.9", nil}, {"aÄ\xffB\x00", "aÄ\xffb\x00", nil}, {"k\u212a", "k\u212a", nil},
		{`a"B'c<d=e`, "a_b_c_d_e", nil}, {`a"`, "a_", nil}, {"a'", "a_", nil}, {"a<", "a_", nil}, {"a=", "a_", nil}, {`a="x"`, "a__x_", nil}, {"a<!--", "a_!--", nil}, {"a</b", "a_", []string{"b", ""}}, {"a&lt;", "a&lt;", nil}, {"a\r", "a\r", nil}, {"a\v", "a\v", nil},
		{"br/", "br", nil}, {"br /", "br", nil}, {"br//", "br", nil}, {"br / / ", "br", nil}, {"a ", "a", nil}, {"a\t\n\f ", "a", nil}, {"a/b", "a", []string{"b", ""}}, {"a/ B", "a", []string{"b", ""}}, {"a\nB", "a", []string{"b", ""}}, {"a\tb", "a", []string{"b", ""}}, {"a\fb", "a", []string{"b", ""}},
		{strings.Repeat("aB", 40000), strings.Repeat("ab", 40000), nil},
	} {
		s := "<" + x.inside + ">"
		wantNext(t, s, 0, "", is(start(x.name, x.attrs...), len(s)))
		wantNext(t, s+">x", 0, "", is(start(x.name, x.attrs...), len(s)))
		s = "</" + x.inside + ">"
		wantNext(t, s, 0, "", is(end(x.name), len(s)))
	}
}

// P10.3: attributes: their names, their values, what stands between them.
func TestTagAttributes(t *testing.T) {
	for _, x := range []struct {
		inside string
		attrs  []string
	}{
		{" b", []string{"b", ""}},
		{" b=c", []string{"b", "c"}},
		{` b="c"`, []string{"b", "c"}},
		{" b='c'", []string{"b", "c"}},
		{` b="c'd" e='f"g'`, []string{"b", "c'd", "e", `f"g`}},
		{` b=""`, []string{"b", ""}},
		{" b=''", []string{"b", ""}},
		{" b=", []string{"b", ""}},
		{" b= ", []string{"b", ""}},
		{" b =", []string{"b", ""}},
		{" b = c", []string{"b", "c"}},
		{" b\t\n\f =\n\t \f'c'", []string{"b", "c"}},
		{" b c", []string{"b", "", "c", ""}},
		{" b  c=d", []string{"b", "", "c", "d"}},
		{" b=c d", []string{"b", "c", "d", ""}},
		{" b= c d", []string{"b", "c", "d", ""}},
		{" b=\nc=d e", []string{"b", "c=d", "e", ""}},
		{" b==c", []string{"b", "=c"}},
		{" b= =c", []string{"b", "=c"}},
		{" b=c=d", []string{"b", "c=d"}},
		{" b = = c", []string{"b", "=", "c", ""}},
		{" b=/", []string{"b", "/"}},
		{" b=/c", []string{"b", "/c"}},
		{" b=c/", []string{"b", "c/"}},
		{" b=c/d /e", []string{"b", "c/d", "e", ""}},
		{" b=/ c", []string{"b", "/", "c", ""}},
		{" b/=c", []string{"_c", "", "b", ""}},
		{" b /=c", []string{"_c", "", "b", ""}},
		{"/b/c/", []string{"b", "", "c", ""}},
		{"/ / b='c'//d", []string{"b", "c", "d", ""}},
		{` b="c"d='e'f=g`, []string{"b", "c", "d", "e", "f", "g"}},
		{` b="c"/d`, []string{"b", "c", "d", ""}},
		{` b="c"=d`, []string{"_d", "", "b", "c"}},
		{` b='c'"d"`, []string{"_d_", "", "b", "c"}},
		{" b=c\"d'e<f`g", []string{"b", "c\"d'e<f`g"}},
		{" b=<", []string{"b", "<"}},
		{" b=`c d`", []string{"b", "`c", "d`", ""}},
		{` b="c>d" e='>'`, []string{"b", "c>d", "e", ">"}},
		{` b="\"`, []string{"b", `\`}},
		{" b='c\n <d>/='", []string{"b", "c\n <d>/="}},
		{" b=c\rd\v", []string{"b", "c\rd\v"}},
		{" =", []string{"_", ""}},
		{" =b", []string{"_b", ""}},
		{" =b=c", []string{"_b", "c"}},
		{" ==", []string{"_", ""}},
		{" ==b", []string{"_", "b"}},
		{" ===", []string{"_", "="}},
		{" = =", []string{"_", ""}},
		{" = b", []string{"_", "", "b", ""}},
		{" = =b", []string{"_", "b"}},
		{"/=b", []string{"_b", ""}},
		{` "b"`, []string{"_b_", ""}},
		{` 'b'='c'`, []string{"_b_", "c"}},
		{` "b c"=d`, []string{"_b", "", "c_", "d"}},
		{` b"c'D<e=f`, []string{"b_c_d_e", "f"}},
		{" <b", []string{"_b", ""}},
		{" <=<", []string{"_", "<"}},
		{" \"=1", []string{"_", "1"}},
		{" '=\"'\"", []string{"_", "'"}},
		{" bC=Dd", []string{"bc", "Dd"}},
		{" ÄB\xff=Ö\xfe", []string{"Äb\xff", "Ö\xfe"}},
		{" \x00=\x00", []string{"\x00", "\x00"}},
		{" \r=\r", []string{"\r", "\r"}},
		{" &lt;=1", []string{"&lt;", "1"}},
		{" ?!-", []string{"?!-", ""}},
	} {
		for _, name := range []string{"a", "A"} {
			s := "<" + name + x.inside + ">"
			want := is(start("a", x.attrs...), len(s))
			wantNext(t, s, 0, "", want)
			wantNext(t, s+">\"'", 0, "", want)
			want.behind += 3
			wantNext(t, "< "+s[:1]+s, 3, "", want)
			s = "</" + name + x.inside + ">"
			wantNext(t, s+"x>", 0, "", is(end("a"), len(s)))
		}
	}
}

// P10.3: references in values, with attr's rule, in quotes of either sort and in none; no second time.
func TestTagReferences(t *testing.T) {
	for _, x := range []struct{ value, want string }{
		{"&lt;", "<"}, {"&lt", "<"}, {"&ltx", "&ltx"}, {"&lt1", "&lt1"}, {"&lt=", "&lt="}, {"&lt;=", "<="}, {"&notit;", "&notit;"}, {"&not;it", "¬it"}, {"&notin;x", "∉x"},
		{"?a=1&copy=2&amp;b", "?a=1&copy=2&b"}, {"&#65;", "A"}, {"&#65b", "Ab"}, {"&#x41;", "A"}, {"&#32;", " "}, {"&#62;", ">"}, {"&#34;", `"`}, {"&quot;", `"`}, {"&apos;", "'"}, {"&gt;", ">"},
		{"&", "&"}, {"&&amp;", "&&"}, {"&amp;lt;", "&lt;"}, {"&nbsp;", "\u00a0"}, {"&fjlig;", "fj"}, {"&hop;", "&hop;"}, {"a&amp", "a&"}, {"&#0;", "\ufffd"},
	} {
		wantValue(t, "<a b="+x.value+">", x.want)
		wantValue(t, "<a b="+x.value+" >", x.want)
		wantValue(t, `<a b="`+x.value+`">`, x.want)
		wantValue(t, "<a b = '"+x.value+"'/>", x.want)
	}
	// What stands behind a value is no part of it.
	wantNext(t, "<a b=&lt c=&lt/>", 0, "", is(start("a", "b", "<", "c", "</"), 16))
	wantNext(t, "<a b='&lt'c=\"&lt\"d>", 0, "", is(start("a", "b", "<", "c", "<", "d", ""), 19))
	wantNext(t, "<a b='& lt;' c=&#\n65;>", 0, "", is(start("a", "65;", "", "b", "& lt;", "c", "&#"), 22))
}

// wantValue holds Next of a tag against the value of its b.
func wantValue(t *testing.T, s, value string) {
	t.Helper()
	wantNext(t, s, 0, "", is(start("a", "b", value), len(s)))
}

// P10.3: of one name the first one, whatever it has; one name in any case, and by signs that count as one.
func TestTagTwice(t *testing.T) {
	for _, x := range []struct {
		inside string
		attrs  []string
	}{
		{"b=1 b=2", []string{"b", "1"}}, {"b=1 B=2", []string{"b", "1"}}, {"B=1 b=2 b B=3", []string{"b", "1"}}, {"b b=2", []string{"b", ""}}, {"b= b=2", []string{"b", "b=2"}}, {"b='' b=2", []string{"b", ""}},
		{"c=1 b=2 c=3 b=4 a=5", []string{"a", "5", "b", "2", "c", "1"}}, {`b"=1 b'=2 b<=3 b_=4`, []string{"b_", "1"}}, {"_=1 ==2 '=3", []string{"_", "1"}}, {"=b _b=1", []string{"_b", ""}}, {"_b=1 =b", []string{"_b", "1"}},
		{"ä=1 Ä=2", []string{"Ä", "2", "ä", "1"}}, {"k=1 \u212a=2 K=3", []string{"k", "1", "\u212a", "2"}}, {"&lt;=1 &lt=2", []string{"&lt", "2", "&lt;", "1"}}, {"b=1 bb=2 b=3", []string{"b", "1", "bb", "2"}},
	} {
		s := "<p " + x.inside + ">"
		wantNext(t, s, 0, "", is(start("p", x.attrs...), len(s)))
		s = "<p\n" + x.inside + "/x"
		wantNext(t, s, 0, "", none(len(s)))
	}
}

// P10.3: attributes in the order of their names, byte by byte, whatever order they came in, and how many there are.
func TestTagOrder(t *testing.T) {
	sorted := []string{"!", "-", "0", "00", "1", "10", "2", "9", "[", "_", "a", "a-", "a0", "a_", "aa", "ab", "b", "z", "zz", "{", "ä", "\u212a", "\U0001f333", "\xff"}
	seed := uint64(3)
	for range 200 {
		l := slices.Clone(sorted)
		for i := range l {
			j := i + int(draw(&seed)%uint64(len(l)-i))
			l[i], l[j] = l[j], l[i]
		}
		s := "<p"
		for i, name := range l {
			s += " " + name + "=" + strconv.Itoa(i)
		}
		var want []string
		for _, name := range sorted {
			want = append(want, name, strconv.Itoa(slices.Index(l, name)))
		}
		wantNext(t, s+">", 0, "", is(start("p", want...), len(s)+1))
	}
	s, want := "<p", []string{}
	for i := range 3000 {
		s += " a" + strconv.Itoa(13999-i) + "='&lt;'"
		want = append(want, "a"+strconv.Itoa(11000+i), "<")
	}
	wantNext(t, s+">", 0, "", is(start("p", want...), len(s)+1))
}

// draw is a number that looks drawn.
func draw(seed *uint64) uint64 {
	*seed = *seed*6364136223846793005 + 1442695040888963407
	return *seed >> 33
}

// P10.3: an end tag has no attributes, whatever stands in it, but it ends where they do.
func TestTagEnd(t *testing.T) {
	for _, x := range []struct {
		s    string
		want said
	}{
		{"</A b=1>", is(end("a"), 8)}, {"</a b='>'>", is(end("a"), 10)}, {"</a b=\">\" c>d", is(end("a"), 12)}, {"</a/>", is(end("a"), 5)}, {"</a / b / >", is(end("a"), 11)}, {"</a\"'<=b>", is(end("a____b"), 9)}, {"</a b='>", none(8)}, {"</a =>", is(end("a"), 6)},
		{"</TITLE\n>", is(end("title"), 9)},
	} {
		wantNext(t, x.s, 0, "", x.want)
	}
}

// P10.3: a tag that does not end says nothing, at every place where it can be cut.
func TestTagCut(t *testing.T) {
	for _, whole := range []string{
		"<a>", "</a>", "<abc>", "<a b>", "<a  b = 'c' d=\"e\" f = g h i/j / >", "</a b='c' d>", "<br/>", "<a b=>", "<a b= >", "<a b='&lt;' c=&lt; d=\"&notit\"c>", "<a\"'<=b \"c='d'e>", "<a =b=='c' =='d>e'>", "<A B=\">\"\tC='>'\n\f>",
		"<a b=\"'\" c='\"'>", "<a b='</a >'x>", "<a <b <c d=<e>",
	} {
		wantNext(t, whole, 0, "", second(whole, 0, ""))
		if got := next(whole, 0, ""); !got.ok || got.behind != len(whole) {
			t.Fatal("the test's own tag:", whole)
		}
		for i := len("<a"); i < len(whole); i++ {
			if cut := whole[:i]; cut != "</" {
				wantNext(t, cut, 0, "", none(len(cut)))
				wantNext(t, "ü"+cut, 2, "", none(2+len(cut)))
			}
		}
	}
	for _, s := range []string{"<a b='c>", "<a b=\"c>", "<a b='c\">", "<a b=\"c'>", "<a b=' >x</a>", "<a b = \">\n</p>", "<a b='\"' c=\"'>'>", "</a b='c>", "<a b='" + strings.Repeat(">", 100000), "<a" + strings.Repeat(" b=c", 100000), "<a" + strings.Repeat("/", 100000)} {
		wantNext(t, s, 0, "", none(len(s)))
	}
}

// R3: the attributes that are answered are new memory, with their spare room.
func TestTagNewMemory(t *testing.T) {
	s := "<a c=1 b=2 d=3>"
	want := is(start("a", "b", "2", "c", "1", "d", "3"), len(s))
	one, two := next(s, 0, ""), next(s, 0, "")
	l := one.piece.Attrs[:cap(one.piece.Attrs)]
	for i := range l {
		l[i] = api.Attr{Name: "x", Value: "y"}
	}
	if !same(two, want) {
		t.Errorf("a second answer was changed by the first one: %#v", two)
	}
	wantNext(t, s, 0, "", want)
	for _, s := range []string{"a", " ", "<a", "</a b=1>", "<!--a-->", "<!doctype a>", "</>", "", "<"} {
		if x := next(s, 0, ""); len(x.piece.Attrs) > 0 {
			t.Errorf("Next(%q) has attributes", s)
		}
	}
}

// R1: long sources, at each of which the pieces come to their end soon.
func TestNextLong(t *testing.T) {
	const n = 60000
	for _, x := range []struct {
		s, raw string
	}{
		{strings.Repeat("<!---->", n), ""}, {strings.Repeat("<!--x--!>", n), ""}, {"<!--" + strings.Repeat("-", n), ""}, {"<!--" + strings.Repeat("--!", n), ""}, {strings.Repeat("<", n), ""}, {strings.Repeat("</", n), ""}, {strings.Repeat("</>", n), ""}, {strings.Repeat("a ", n), ""},
		{strings.Repeat("<a b='c'>", n), ""}, {"<a" + strings.Repeat(" b=\"\"c=''", n) + ">", ""}, {"<a " + strings.Repeat("b=\"\"", n), ""}, {strings.Repeat("</", n), "title"}, {strings.Repeat("</title", n), "title"}, {strings.Repeat("</x>", n), "X"}, {strings.Repeat("</", n), strings.Repeat("x", n)},
	} {
		at, pieces := 0, 0
		for ; at < len(x.s) && pieces <= len(x.s); pieces++ {
			_, behind, _ := token.Next(x.s, at, x.raw)
			if behind <= at || behind > len(x.s) {
				t.Fatalf("Next(%q, %d, %q): the place behind is %d", short(x.s), at, short(x.raw), behind)
			}
			at = behind
		}
	}
}
