package parse_test

import (
	"slices"
	"strings"
	"testing"

	"topiary/api"
	"topiary/build"
	"topiary/parse"
	"topiary/scan"
	"topiary/tree"
)

// never is how many bytes no source is too big with: a tag with an attribute more than may be has one more.
const never = len("<p a b c d e f g h i j k l m>") - 1

// wantWhole holds a tree against what is promised of each: it may be, and its Root has one html, which has one head and, behind it, one body.
func wantWhole(t *testing.T, s string, root api.Tree) {
	t.Helper()
	names := func(l []api.Tree) (names []string) {
		for _, x := range l {
			if x.Kind == api.Element {
				names = append(names, x.Name)
			}
		}
		return names
	}
	top := names(root.Kids)
	if !tree.Check(root) || !slices.Equal(top, []string{"html"}) {
		t.Fatalf("%q: in the Root are %q: %s", short(s), top, short(show(root)))
	}
	at := slices.IndexFunc(root.Kids, func(x api.Tree) bool { return x.Kind == api.Element })
	if l := names(root.Kids[at].Kids); !slices.Equal(l, []string{"head", "body"}) {
		t.Fatalf("%q: in html are %q: %s", short(s), l, short(show(root)))
	}
}

// wantAll holds both calls' answers to a source against all that is promised of them; it tells how Parse of it ended.
func wantAll(t *testing.T, s string) api.Errno {
	t.Helper()
	got, e := parse.Parse(s)
	switch {
	case e == api.OK:
		wantWhole(t, s, got)
	case e != api.ErrBig || got.Kind != 0 || surelyTaken(s):
		t.Fatalf("%q is refused: %s, %v", short(s), short(show(got)), e)
	}
	if want, we := build.Build(scan.All(s)); len(s) <= api.MaxSource && (e != we || !tree.Same(got, want)) {
		t.Fatalf("Parse(%q)\n is %s, %v\nwant %s, %v", short(s), short(show(got)), e, short(show(want)), we)
	}
	if again, f := parse.Parse(s); f != e || !tree.Same(again, got) {
		t.Fatalf("%q is another tree when it is asked again: %s, %v", short(s), short(show(again)), f)
	}
	part, e2 := parse.Part(s)
	if want, we := secondPart(s); e2 != we || !slices.EqualFunc(part, want, tree.Same) {
		t.Fatalf("Part(%q)\n is %s, %v\nwant %s, %v", short(s), short(show(part...)), e2, short(show(want...)), we)
	}
	return e
}

// formats are the elements that are opened again where they were cut.
var formats = strings.Fields("a b big code em font i nobr s small strike strong tt u")

// surelyTaken tells of some sources that they are not too big, by a look at their pieces alone: a piece makes at most three nodes (a tbody, a tr, a td), opens each formatting element again, at most twice, and adopts at most eight times, with at most four nodes each time. Adopt makes nothing deeper.
func surelyTaken(s string) bool {
	if len(s) <= never {
		return true
	}
	l := scan.All(s)
	attrs, bytes, active := 0, 0, 0
	for _, x := range l {
		attrs += len(x.Attrs)
		bytes += len(x.Text)
		for _, a := range x.Attrs {
			bytes += len(a.Value)
		}
		if x.Kind == api.TokStart && slices.Contains(formats, x.Name) {
			active++
		}
		if x.Kind == api.TokDoctype && len(x.Name) > api.MaxName {
			return false
		}
	}
	opened := len(l) * (3 + 2*active)
	nodes := 4 + opened + min(active, 1)*len(l)*8*4
	return len(s) <= api.MaxSource && attrs <= api.MaxAttrs && bytes <= api.MaxText && 3+opened <= api.MaxDepth && nodes <= api.MaxNodes
}

// P15.2: sources that end ahead of the html, the head or the body, at each byte of them, and such that begin in their midst.
func TestCutSources(t *testing.T) {
	for _, s := range []string{
		"",
		"<!DOCTYPE html><!--c--><html a=1 b='2'><!--d--> <head x><title>t &lt; u</title><meta></head>\r\n<!--e--><body y=1><p>x<b>y</p>z</body> <!--f--></html><!--g-->\n",
		"\xff<!doctype x>\x00<head><script>a</script></head><title>t</title><base></head><frameset><p>",
		" <!--a--> </p></br><table><caption>c<col><tr><td>x<table>y</table></td>z</table>w",
		"</head></body></html><html><html><head><head><body><body></html></body></head>x",
		"<style><body></style><textarea><body></textarea><html><!--<body>",
		"</body><!--c--></html><!--d--></head><!--e--></br><!--f-->",
		"<b><p>1</b>2<a><div><a>3</body></html><a><table><a>4",
	} {
		for at := range len(s) + 1 {
			for _, cut := range []string{s[:at], s[at:]} {
				if e := wantAll(t, cut); e != api.OK {
					t.Errorf("%q is refused: %v", cut, e)
				}
			}
		}
	}
}

// P15.2: all bytes, alone, two of them, and each in the midst of something.
func TestAllBytes(t *testing.T) {
	for a := range 256 {
		for b := range 256 {
			s := string([]byte{byte(a), byte(b)})
			got, e := parse.Parse(s)
			if e != api.OK {
				t.Fatalf("%q is refused: %v", s, e)
			}
			wantWhole(t, s, got)
		}
		c := string([]byte{byte(a)})
		for _, s := range []string{c, "<" + c, "</" + c, "<!" + c, "<!doctype" + c, "<p" + c + ">x", "<p " + c + "=1>", "<p a=" + c + ">", "<p a='" + c + "'>", "&" + c, "&#" + c + ";", "<!--" + c + "-->", "<!--" + c, "<title>" + c, "<title></title" + c, "<table>" + c + "<tr>"} {
			if e := wantAll(t, s); e != api.OK {
				t.Errorf("%q is refused: %v", s, e)
			}
		}
	}
}

// parts are what drawn sources are made of.
var parts = slices.Concat(
	[]string{"x", "y z", " ", "\n", "\r", "\r\n", "\x00", "\xff", "\xc3", "ü", "&lt;", "&notit;", "&", "<", "</", "<!", "<?", ">", "/", "=", "'", "\"", "</>", "<!--", "-->", "<!--c-->", "<!doctype html>", "<!doctype", "<p", "</p", "<p a=1 b='2'>", "<html a=1>", "<body c d>", ahead},
	tags("html head body title script style textarea p div b i a nobr table caption colgroup col tbody tr td li object button br pre xmp noframes meta frameset"),
)

// whole are parts that all end: no one behind them is lost in them, so that trees of them grow.
var whole = append(tags("p div b i a nobr table tr td li object button span body"), "x", "<br>", "<!--c-->")

// tags are the start and the end tags of names.
func tags(names string) (l []string) {
	for _, name := range strings.Fields(names) {
		l = append(l, "<"+name+">", "</"+name+">")
	}
	return l
}

// drawn is a source of so many parts of a list.
func drawn(seed *uint64, n int, l []string) string {
	var s strings.Builder
	for range n {
		s.WriteString(l[draw(seed, len(l))])
	}
	return s.String()
}

// signs are all bytes, and marks those that tags are made of.
func signs() (all, marks []string) {
	for c := range 256 {
		all = append(all, string([]byte{byte(c)}))
	}
	return all, strings.Split("<<<>>//!-- abp'\"=&;#\r\n\x00\xff", "")
}

// P15.1, P15.2: drawn sources, of bytes and of parts, short ones and some that are as long as may be: each that is not too big is taken.
func TestDrawn(t *testing.T) {
	t.Parallel()
	all, marks := signs()
	seed := uint64(15)
	taken, refused, sure := 0, 0, 0
	for i := range 12000 {
		l := [][]string{parts, parts, whole, marks, all}[i%5]
		n := []int{6, 12, 24, 60, 900}[draw(&seed, 5)]
		if i%501 == 0 {
			n = 4000
		}
		s := drawn(&seed, draw(&seed, n), l)
		switch e := wantAll(t, s); {
		case e != api.OK:
			refused++
		case len(s) > never && surelyTaken(s):
			sure++
			fallthrough
		default:
			taken++
		}
	}
	if taken < 9000 || refused < 100 || sure < 2000 {
		t.Errorf("%d taken (%d of them surely), %d refused: the sources don't tell enough", taken, sure, refused)
	}
}

// P15.2: drawn sources that are short: none of them is refused.
func TestDrawnShort(t *testing.T) {
	t.Parallel()
	all, marks := signs()
	seed := uint64(1515)
	for i := range 60000 {
		s := drawn(&seed, never, [][]string{parts, marks, all}[i%3])[:draw(&seed, never+1)]
		got, e := parse.Parse(s)
		if e != api.OK {
			t.Fatalf("%q is refused: %v", s, e)
		}
		wantWhole(t, s, got)
	}
	if s := "<p a b c d e f g h i j k l m>"; len(s) != never+1 || wantAll(t, s) != api.ErrBig {
		t.Error("a tag with more attributes than may be is taken")
	}
}

// P15.2, R1: one part again and again, up to as many bytes as may be and beyond that: it ends, and is taken, or too big.
func TestRepeated(t *testing.T) {
	t.Parallel()
	for _, x := range parts {
		for _, y := range []string{"", "<b>", "<table>", "</p>", "<!--"} {
			part := x + y
			for _, n := range []int{2, 7, 60, 300, api.MaxSource / len(part), api.MaxSource/len(part) + 1} {
				s := strings.Repeat(part, n)
				if e := wantAll(t, s); len(s) > api.MaxSource && e != api.ErrBig {
					t.Errorf("%q, %d times: %v", part, n, e)
				}
			}
		}
	}
}
