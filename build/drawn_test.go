package build_test

import (
	"slices"
	"testing"

	"topiary/api"
	"topiary/build"
	"topiary/tree"
)

// allNames are the names that the chapters 12 and 14 speak of, and some that they don't.
var allNames = words(`
	a address applet area article aside b base big blockquote body br button caption center code col colgroup dd details dir div dl dt
	em embed fieldset figcaption figure font footer form frame frameset h1 h2 h3 h4 h5 h6 head header hgroup hr html i iframe image img input
	li link listing main marquee menu meta nav nobr noembed noframes object ol optgroup option p param plaintext pre
	rp rt ruby s script search section select small source span strike strong style summary
	table tbody td textarea tfoot th thead title tr track tt u ul unknown wbr xmp`)

// openings are sources that lead to each mode, and there to each sort of what is open and active.
var openings = []string{
	"", "<!doctype html>", "<html>", "<html a=1>", "<head>", "<head><title>", "<head><script>", "<head></head>", "</head>", "<link></head><title>",
	"<body>", "<body>x", "<body><p>", "<body><p><b>", "<body><b><p>", "<body><i><b><div><p>", "<body><b><i><u><s><tt><p>",
	"<body><b></p></b><p><i>x</p>", "<body><p><b><i></p>", "<body><a><p>", "<body><a>x", "<body><nobr><p>", "<body><div><a><table>",
	"<body><ul><li>", "<body><ul><li><p>", "<body><ol><li><div>", "<body><li><ul>", "<body><dl><dd>", "<body><dl><dt><p>", "<body><dd><div><span>",
	"<body><button>", "<body><p><button><p>", "<body><button><div>", "<body><h1>", "<body><h2><b>", "<body><h3><p>",
	"<body><object>", "<body><b><object><i>", "<body><marquee><p>", "<body><applet><b><p>", "<body><option>", "<body><select><option>", "<body><ruby><rp>", "<body><ruby><p><rt>",
	"<body><span>", "<body><div><span><b>", "<body><b><span><i><span><u><div>", "<body><pre>", "<body><listing>", "<body><textarea>", "<body><xmp>", "<body><iframe>", "<body><plaintext>",
	"<body></body>", "<body><p></body>", "<body><b></body></html>", "<body><p><b></p></body>", "<form>", "<p><form>",
	"<table>", "<p><b></p><table>", "<b><table>", "<table><b>", "<table><b><p>", "<table><p>", "<table><a>", "<table><div><b>",
	"<table><caption>", "<table><caption><p><b>", "<table><caption><div>", "<b><table><caption>", "<table><colgroup>", "<table><col>", "<table><tbody>", "<table><thead>", "<table><tfoot>", "<table><tbody><b>", "<table><tbody><div>",
	"<table><tr>", "<table><thead><tr>", "<table><tr><b>", "<table><tr><i><p>", "<table><td>", "<table><th>", "<table><td><b>", "<table><td><p><i>", "<table><td><ul><li>", "<table><tr><td></td>", "<table><b><td>", "<table><tfoot><th><div>",
	"<table><td><table>", "<table><td><table><tr>", "<table><td><table><td>", "<table><caption><table>", "<table><caption><table><caption>", "<table><caption><table><td>", "<table><th><table><colgroup>", "<div><table><select>", "<table><style>", "<table><title>",
	"<table><button><table>", "<object><table>", "<table><object><b>", "<table><td><marquee><p>", "<b><p><table><tr>", "<a><table><tr>", "<table><ul><li>",
}

// probes are what tells, behind a piece, which mode there is, what is open and active, and where things are put.
var probes = []string{"x<i>y</b>z</body> <!--d-->w", " <!--c--><li>x</p>y", "<td>x<a>y<div></a>z", "<col></table>x"}

// counted are how often the second reading took each row, and raised each mode.
type counted struct {
	taken  []int
	raised map[string]int
}

func newCounted() counted { return counted{make([]int, rowCount), map[string]int{}} }

func (c counted) add(s *second) {
	for _, id := range s.taken {
		c.taken[id]++
	}
	for _, mode := range s.raised {
		c.raised[mode]++
	}
}

// wantAllRows tells whether each row was taken.
func (c counted) wantAllRows(t *testing.T) {
	t.Helper()
	for mode, l := range rules {
		for _, r := range l {
			if c.taken[r.id] == 0 {
				t.Errorf("a row of the mode %s (%v) is never taken", mode, r.whats)
			}
		}
	}
}

// P14.2 to P14.7: in each mode, and with each sort of elements open, each start tag, each end tag, and all other sorts of pieces; behind each of them, pieces that tell what has become of it.
func TestEachPieceInEachMode(t *testing.T) {
	t.Parallel()
	c := newCounted()
	for _, opening := range openings {
		var next []api.Token
		for _, name := range allNames {
			next = append(next, start(name, "k", "v"), end(name))
		}
		next = append(next, text("x"), text(" "), text("\n"), text("\ny"), text(" x"), text("x "), comment("c"), doctype("d"), end0, text(""), api.Token{Kind: 7}, start("A"), end("A"))
		for _, n := range next {
			l := pieces(opening, n)
			c.add(wantSecond(t, l))
			for _, probe := range probes {
				c.add(wantSecond(t, slices.Concat(l, pieces(probe))))
			}
		}
	}
	c.wantAllRows(t)
	for _, mode := range words("cell caption body") {
		if c.raised[mode] == 0 {
			t.Errorf("the mode %s is never raised", mode)
		}
	}
}

// P14.2 to P14.7: two pieces behind each other in each mode.
func TestTwoPiecesInEachMode(t *testing.T) {
	t.Parallel()
	names := words("a b p div li table caption tbody tr td object span")
	var l []api.Token
	for _, name := range names {
		l = append(l, start(name), end(name))
	}
	l = append(l, text("x"), text(" "), comment("c"))
	for _, opening := range openings {
		ahead := pieces(opening)
		for _, a := range l {
			for _, b := range l {
				wantSecond(t, slices.Concat(ahead, []api.Token{a, b, text("z")}))
			}
		}
	}
}

// pool are names that are drawn together, so that they meet often.
type pool struct {
	names []string
	steps int
}

var pools = []pool{
	{allNames, 60},
	{words("a b i u s p div span"), 40},
	{words("b i p div table tr td"), 40},
	{words("a nobr b font p ul li object button"), 40},
	{words("table caption colgroup col tbody thead tfoot tr td th"), 50},
	{words("table td b i a p object marquee applet caption"), 50},
	{words("html head body title style script noframes base link p b"), 30},
	{words("b b b b i p"), 60},
	{words("b i u s tt em big small p"), 50},
	{words("ul ol li dl dd dt p div address section option rp rt ruby"), 50},
	{words("h1 h2 h6 p button xmp textarea pre listing iframe hr br image plaintext"), 40},
	{words("a table tr p div"), 50},
	{words("nobr table td caption div"), 50},
}

// drawPiece is a piece of a pool.
func drawPiece(seed *uint64, p pool) api.Token {
	name := p.names[draw(seed, len(p.names))]
	switch k := draw(seed, 20); {
	case k < 9:
		return start(name)
	case k < 10:
		return start(name, words("a b c")[draw(seed, 3)], words("1 2")[draw(seed, 2)])
	case k < 16:
		return end(name)
	case k < 18:
		return text([]string{"x", " ", "\n", "y z", "\nq"}[draw(seed, 5)])
	case k < 19:
		return comment("c")
	}
	return []api.Token{doctype("d"), text(""), {Kind: -1}, start("="), end("="), start("html", "e", "5", "f", "6"), start("body", "e", "5", "=", "6")}[draw(seed, 7)]
}

// P14.1 to P14.7: rows of pieces that look drawn, of names that meet often.
func TestDrawn(t *testing.T) {
	t.Parallel()
	seed := uint64(14)
	c := newCounted()
	for i := range 25000 {
		p := pools[i%len(pools)]
		var l []api.Token
		for range draw(&seed, p.steps) {
			l = append(l, drawPiece(&seed, p))
		}
		s := wantSecond(t, l)
		c.add(s)
		got, e := build.Build(l)
		if e == api.OK && (!tree.Check(got) || tree.Size(got) != len(s.nodes)) {
			t.Fatalf("%s: a tree of %d nodes, of %d that were made: %s", tell(l), tree.Size(got), len(s.nodes), short(show(got)))
		}
	}
	c.wantAllRows(t)
}

// P14.1: long rows of pieces, about as many as there may be nodes and more.
func TestDrawnLong(t *testing.T) {
	t.Parallel()
	seed := uint64(1414)
	errs := map[api.Errno]int{}
	for i := range 700 {
		p := pools[i%len(pools)]
		var l []api.Token
		for range 100 + draw(&seed, 500) {
			l = append(l, drawPiece(&seed, p))
		}
		wantSecond(t, l)
		_, e := build.Build(l)
		errs[e]++
	}
	if errs[api.OK] < 50 || errs[api.ErrBig] < 50 {
		t.Error(errs)
	}
}
