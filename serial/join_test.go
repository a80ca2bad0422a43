package serial_test

import (
	"strings"
	"testing"

	"topiary/api"
	"topiary/serial"
	"topiary/tree"
)

// lengths are a list of nodes as a text that may be told: of each its Kind, and how many bytes its Text has.
func lengths(l []api.Tree) (all [][2]int) {
	for _, x := range l {
		all = append(all, [2]int{x.Kind, len(x.Text)})
	}
	return all
}

// wantJoin holds Join of a tree against what it should be; Join again turns nothing, and what is handed in stays.
func wantJoin(t *testing.T, x, want api.Tree) {
	t.Helper()
	was := remember(x)
	got := serial.Join(x)
	if !tree.Same(got, want) {
		t.Fatalf("Join of %v\n is %v, %q\nwant %v, %q", lengths(x.Kids), lengths(got.Kids), short(serial.Text(got)), lengths(want.Kids), short(serial.Text(want)))
	}
	if again := serial.Join(got); !tree.Same(again, want) {
		t.Fatalf("Join again turns %v to %v", lengths(got.Kids), lengths(again.Kids))
	}
	if !was.holds(x) {
		t.Fatalf("Join changed what was handed in: %v", lengths(x.Kids))
	}
}

// joins are lists of kids, and what Join makes of them.
type joins [][2][]api.Tree

// run holds each list against what is made of it: as the kids of nodes of all kinds, deeper, and next to others.
func (l joins) run(t *testing.T) {
	t.Helper()
	for _, x := range l {
		from, to := x[0], x[1]
		for _, kind := range []int{api.Root, api.Element, api.Text, api.Comment, api.Doctype, 0, 9, -1} {
			wantJoin(t, full(kind, from...), full(kind, to...))
			wantJoin(t, root(full(kind, from...)), root(full(kind, to...)))
		}
		for _, name := range []string{"p", "br", "script", "title"} {
			wantJoin(t, el(name, from...), el(name, to...))
		}
		wantJoin(t, chain(7, api.Element, "p", el("q", from...)), chain(7, api.Element, "p", el("q", to...)))
		wantJoin(t, root(el("p", from...), text("a"), text("b"), el("p", from...), text("")), root(el("p", to...), text("ab"), el("p", to...)))
	}
}

// is is a list of nodes.
func is(l ...api.Tree) []api.Tree { return l }

// P16.2: Texts that are empty are gone, wherever they stand.
func TestJoinEmpty(t *testing.T) {
	a, e, c, p := text("a"), text(""), comment(""), el("p")
	joins{
		{is(), is()},
		{is(e), is()},
		{is(e, e, e), is()},
		{is(e, a), is(a)},
		{is(a, e), is(a)},
		{is(e, e, a, e, e), is(a)},
		{is(a, e, a), is(text("aa"))},
		{is(a, e, e, e, text("b")), is(text("ab"))},
		{is(e, c), is(c)},
		{is(c, e), is(c)},
		{is(c, e, c), is(c, c)},
		{is(p, e, e, p, e), is(p, p)},
		{is(e, p, e, a, e, p, e), is(p, a, p)},
		// What is empty but is no Text stays.
		{is(c, p, doctype(""), root(), api.Tree{}, el("")), is(c, p, doctype(""), root(), api.Tree{}, el(""))},
		{is(text(" "), text("\x00")), is(text(" \x00"))},
	}.run(t)
}

// P16.2: Texts next to one another are added from left to right, as they are.
func TestJoinTexts(t *testing.T) {
	a, b := text("a"), text("b")
	joins{
		{is(a), is(a)},
		{is(a, b), is(text("ab"))},
		{is(b, a), is(text("ba"))},
		{is(a, a), is(text("aa"))},
		{is(a, b, text("c"), text("de"), text("f")), is(text("abcdef"))},
		{is(text("\xc2"), text("\xa0")), is(text("\u00a0"))},
		{is(text("&"), text("amp;<"), text("/p>")), is(text("&amp;</p>"))},
		{is(text(" "), text("\n"), text("\r"), text("\xff")), is(text(" \n\r\xff"))},
	}.run(t)
}

// P16.2: other nodes part Texts, and are not joined themselves, whatever they are.
func TestJoinOthers(t *testing.T) {
	a, b := text("a"), text("b")
	for _, o := range []api.Tree{comment("c"), comment(""), el("p"), el("p", text("x")), with(el("br"), "x", "y"), doctype("d"), root(), {}, full(0), full(9), full(-api.Text), full(1<<8 + api.Text), full(1<<32 + api.Text), {Kind: api.Text + 1, Text: "a"}, {Kind: api.Text - 1, Text: "a"}} {
		joins{
			{is(o), is(o)},
			{is(a, o, b), is(a, o, b)},
			{is(o, a, b), is(o, text("ab"))},
			{is(a, b, o), is(text("ab"), o)},
			{is(o, o), is(o, o)},
			{is(a, b, o, a, b, o, o, b, a), is(text("ab"), o, text("ab"), o, o, text("ba"))},
			{is(a, text(""), o, text(""), b), is(a, o, b)},
		}.run(t)
	}
}

// P16.2: up to MaxText bytes together and no more; what stands behind a Text that did not fit is held against that one.
func TestJoinMost(t *testing.T) {
	const most = api.MaxText
	x := func(n int) api.Tree { return text(ofBytes(n)) }
	y := func(n int) api.Tree { return text(strings.Repeat("y", n)) }
	joins{
		{is(x(most-1), y(1)), is(text(ofBytes(most-1) + "y"))},
		{is(x(most-1), y(2)), is(x(most-1), y(2))},
		{is(x(1), y(most-1)), is(text("x" + strings.Repeat("y", most-1)))},
		{is(x(1), y(most)), is(x(1), y(most))},
		{is(x(2), y(most-1)), is(x(2), y(most-1))},
		{is(x(most/2), x(most/2)), is(x(most))},
		{is(x(most/2), x(most/2+1)), is(x(most/2), x(most/2+1))},
		{is(x(most/2+1), x(most/2)), is(x(most/2+1), x(most/2))},
		{is(x(most), text("")), is(x(most))},
		{is(x(most), text(""), y(1)), is(x(most), y(1))},
		{is(x(most), y(1), y(1)), is(x(most), y(2))},
		{is(x(most), x(most), x(most)), is(x(most), x(most), x(most))},
		{is(x(most-2), x(1), x(1), y(1), y(1)), is(x(most), y(2))},
		{is(x(most-1), y(2), y(1), y(most-3), x(1)), is(x(most-1), y(most), x(1))},
		// One that would fit further ahead, or behind, is held against the one that it stands behind.
		{is(x(most-1), y(2), x(1)), is(x(most-1), text("yyx"))},
		{is(x(most-1), y(most), x(1)), is(x(most-1), y(most), x(1))},
		{is(x(1), y(most), x(1), y(most-1)), is(x(1), y(most), text("x"+strings.Repeat("y", most-1)))},
		{is(x(most/2), x(most/2), x(most/2), x(most/2), x(1)), is(x(most), x(most), x(1))},
		{is(x(most/2+1), x(most/2), y(most/2), y(1)), is(x(most/2+1), text(ofBytes(most/2)+strings.Repeat("y", most/2)), y(1))},
		// Longer ones than may be stay as they are.
		{is(x(most + 1)), is(x(most + 1))},
		{is(x(most+1), text(""), y(1), y(1)), is(x(most+1), y(2))},
		{is(y(1), x(most+1), y(1)), is(y(1), x(most+1), y(1))},
		{is(x(2*most), x(2*most)), is(x(2*most), x(2*most))},
		// Bytes count, not runes; other nodes' texts don't.
		{is(text(strings.Repeat("ü", most/2)), x(1)), is(text(strings.Repeat("ü", most/2)), x(1))},
		{is(text(strings.Repeat("ü", most/2-1)), x(2)), is(text(strings.Repeat("ü", most/2-1) + "xx"))},
		{is(text(strings.Repeat("&", most/2)), text(strings.Repeat("&", most/2))), is(text(strings.Repeat("&", most)))},
		{is(x(most/2), comment(ofBytes(most)), x(most/2), x(most/2)), is(x(most/2), comment(ofBytes(most)), x(most))},
	}.run(t)
	joins{{letters(most), is(x(most))}, {letters(most + 1), is(x(most), x(1))}}.run(t)
}

// letters are n texts of one byte each.
func letters(n int) []api.Tree {
	l := make([]api.Tree, n)
	for i := range l {
		l[i] = text("x")
	}
	return l
}

// P16.2: of a node handed in by itself its kids alone are looked at: a Text stays, an empty one too.
func TestJoinAlone(t *testing.T) {
	for _, x := range []api.Tree{text("a"), text(""), text(ofBytes(api.MaxText)), text(ofBytes(api.MaxText + 1)), comment(""), comment("a"), doctype("html"), root(), el("p"), el("br"), {}, full(9), full(api.Text), full(api.Comment)} {
		wantJoin(t, x, x)
	}
	wantJoin(t, api.Tree{Kind: api.Text, Kids: is(text("a"), text(""), text("b"))}, api.Tree{Kind: api.Text, Kids: is(text("ab"))})
}

// P16.2: all that a node has stays, but for the texts among its kids; of Texts that have more than a Text the first one's other parts stay.
func TestJoinParts(t *testing.T) {
	p := with(el("p", text("a"), with(el("b", text("c"), text("d")), "y", "2"), text("e"), text("f")), "x", "1", "x", "0")
	want := with(el("p", text("a"), with(el("b", text("cd")), "y", "2"), text("ef")), "x", "1", "x", "0")
	wantJoin(t, p, want)
	wantJoin(t, root(doctype("d"), comment("a"), comment("b"), p, p), root(doctype("d"), comment("a"), comment("b"), want, want))
	one := full(api.Text, text("a"), text(""), text("b"))
	two := api.Tree{Kind: api.Text, Text: "u", Kids: is(text("gone"))}
	both := full(api.Text, text("ab"))
	both.Text = "tu"
	wantJoin(t, root(one, two), root(both))
}

// P16.2: all lists of up to five kids of eight, against the second reading.
func TestJoinAllLists(t *testing.T) {
	nodes := is(text(""), text("a"), text(ofBytes(api.MaxText/2)), text(ofBytes(api.MaxText-1)), text(ofBytes(api.MaxText)), text(ofBytes(api.MaxText+1)), comment(""), el("p", text("x"), text(""), text("y")))
	var grow func(l []api.Tree, more int)
	grow = func(l []api.Tree, more int) {
		wantJoin(t, root(l...), secondJoin(root(l...)))
		if more > 0 {
			for _, n := range nodes {
				grow(append(l, n), more-1)
			}
		}
	}
	grow(make([]api.Tree, 0, 5), 5)
}

// wantJoined holds a tree against what is promised of each that Join answers.
func wantJoined(t *testing.T, x api.Tree) {
	t.Helper()
	for i, k := range x.Kids {
		if k.Kind == api.Text && k.Text == "" {
			t.Fatalf("an empty Text is there: %v", lengths(x.Kids))
		}
		if i > 0 && k.Kind == api.Text && x.Kids[i-1].Kind == api.Text && len(x.Kids[i-1].Text)+len(k.Text) <= api.MaxText {
			t.Fatalf("two Texts are there that could be one: %v", lengths(x.Kids))
		}
		wantJoined(t, k)
	}
}

// P16.2: drawn trees, such as may be nearly, and wild ones, against the second reading. Of texts that are runes the source is the same.
func TestJoinDrawn(t *testing.T) {
	seed := uint64(1616)
	turned := 0
	for i := range 6000 {
		wild := i%2 == 1
		x := drawnTree(&seed, 1+i%5, wild)
		wantJoin(t, x, secondJoin(x))
		got := serial.Join(x)
		wantJoined(t, got)
		if !tree.Same(got, x) {
			turned++
		}
		if !wild && serial.Text(got) != serial.Text(x) {
			t.Fatalf("%q is %q, joined", short(serial.Text(x)), short(serial.Text(got)))
		}
	}
	if turned < 1500 {
		t.Errorf("%d trees were turned: they don't tell enough", turned)
	}
}
