package build_test

import (
	"strings"
	"testing"
)

// P14.3: a current element of that name that is in no entry is popped, and no more.
func TestAdoptCurrentWithoutEntry(t *testing.T) {
	cases{
		{"<b><b><b><b>x</b></b></b></b>y", "b(b(b(b('x')))) 'y'"},
		{"<b><b><b><b><b>x</b></b></b>y</b>z</b>w", "b(b(b(b(b('x'))) 'y') 'z') 'w'"},
	}.run(t)
}

// P14.3: without an entry it is an end tag like any other.
func TestAdoptWithoutEntry(t *testing.T) {
	cases{
		{"x</b>y", "'xy'"},
		{"<p>x</b>y", "p('xy')"},
		{"<b>1</b>2</b>3", "b('1') '23'"},
		// An entry ahead of a marker is not found; a special element ends the look.
		{"<b><object>x</b>y", "b(object('xy'))"},
		{"<b><table><td>x</b>y", "b(table(tbody(tr(td('xy')))))"},
		{"<b><table><caption>x</b>y", "b(table(caption('xy')))"},
		// Open, but driven out of the list, with another element further in: the end tag ends both.
		{"<b><b><b><b></b></b></b><span>x</b>y", "b(b(b(b)) span('x')) 'y'"},
		{"<b><b><b><b></b></b></b><p>x</b>y", "b(b(b(b)) p('xy'))"},
	}.run(t)
}

// P14.3: an entry whose element is not open is removed, and no more.
func TestAdoptNotOpen(t *testing.T) {
	cases{
		{"<p><b>1</p></b>2", "p(b('1')) '2'"},
		{"<p><b><i>1</p></b>2", "p(b(i('1'))) i('2')"},
		{"<p><b><b>1</p></b>2", "p(b(b('1'))) b('2')"},
		{"<p><b><b>1</p></b></b>2", "p(b(b('1'))) '2'"},
		{"<p><i>1</p><div></i>2", "p(i('1')) div('2')"},
	}.run(t)
}

// P14.3: a border of scope 1 further in ends it at once: the element stays open and active.
func TestAdoptBorder(t *testing.T) {
	cases{
		{"<b>1<table></b>2", "b('12' table)"},
		{"<b>1<table></b></table>2", "b('1' table '2')"},
		{"<b>1<div><table></b></table>2</div>3", "b('1' div(table '2') '3')"},
		{"<i>0<b>1<table><tr></i></b>2", "i('0' b('12' table(tbody(tr))))"},
		{"<a>1<table><a>2", "a('1' a('2') table)"},
		{"<a>1<table><tr><a>2</table>3", "a('1' a('2') table(tbody(tr))) a('3')"},
		// A border of another scope is none.
		{"<b>1<button>2</b>3", "b('1') button(b('2') '3')"},
		{"<b>1<ul>2</b>3", "b('1') ul(b('2') '3')"},
		{"<b>1<ol>2</b>3", "b('1') ol(b('2') '3')"},
		{"<b>1<select>2</b>3", "b('1') select(b('2') '3')"},
	}.run(t)
}

// P14.3: without a special element further in, all up to the element are open no more.
func TestAdoptWithoutSpecial(t *testing.T) {
	cases{
		{"<b>1</b>2", "b('1') '2'"},
		{"<b>1<i>2</b>3", "b('1' i('2')) i('3')"},
		{"<b>1<i>2<u>3</b>4</i>5", "b('1' i('2' u('3'))) i(u('4')) u('5')"},
		{"<b>1<span>2</b>3</span>4", "b('1' span('2')) '34'"},
		{"<b>1<foo><option><rp>2</b>3", "b('1' foo(option(rp('2')))) '3'"},
		{"<p><b>1<i>2</b>3</p>4", "p(b('1' i('2')) i('3')) i('4')"},
		{"<b a=1>1<b a=2>2</b>3</b>4", "b a=1('1' b a=2('2') '3') '4'"},
		{"<object><b>1</b>2</object>3", "object(b('1') '2') '3'"},
	}.run(t)
}

// P14.3: the special element with all in it comes to stand behind; what is in it is in a new element.
func TestAdoptSpecial(t *testing.T) {
	cases{
		{"<b>1<p>2</b>3", "b('1') p(b('2') '3')"},
		{"<b><p></b>", "b p(b)"},
		{"<b>1<p>2<i>3</b>4", "b('1') p(b('2' i('3')) i('4'))"},
		{"<b x=1 y=2>1<p>2</b>3", "b x=1 y=2('1') p(b x=1 y=2('2') '3')"},
		{"<b>1<p>2<br>3<!--c--><u>4</u></b>5", "b('1') p(b('2' br '3' !c! u('4')) '5')"},
		// The outermost special one; those within it are next.
		{"<b>1<div>2<p>3</b>4", "b('1') div(b('2') p(b('3') '4'))"},
		{"<a>1<div>2<div>3</a>4", "a('1') div(a('2') div(a('3') '4'))"},
		{"<b>1<div>2<div>3<div>4</b>5", "b('1') div(b('2') div(b('3') div(b('4') '5')))"},
		{"<b>1<div>2<i>3<div>4</b>5</i>6", "b('1') div(b('2' i('3')) i div(i(b('4') '5') '6'))"},
		// In an element of its own.
		{"<div><b>1<p>2</b>3</div>4", "div(b('1') p(b('2') '3')) '4'"},
		{"<i><b>1<p>2</b>3</i>4", "i(b('1')) p(i(b('2') '3') '4')"},
		// What is further in than the special one stays open.
		{"<b><p><span>1</b>2</span>3", "b p(b(span('1')) '23')"},
		{"<b><p><i>1</b>2</i>3", "b p(b(i('1')) i('2') '3')"},
	}.run(t)
}

// P14.3: elements between that are active are opened again about the special one, up to three of them.
func TestAdoptBetween(t *testing.T) {
	cases{
		{"<b><i><p>x</b>y", "b(i) i(p(b('x') 'y'))"},
		{"<b>1<i>2<p>3</b>4</i>5", "b('1' i('2')) i p(i(b('3') '4') '5')"},
		{"<b><i><u><p>x</b>y", "b(i(u)) i(u(p(b('x') 'y')))"},
		{"<b><i><u><s><p>x</b>y", "b(i(u(s))) i(u(s(p(b('x') 'y'))))"},
		{"<b><i><u><s><tt><p>x</b>y", "b(i(u(s(tt)))) u(s(tt(p(b('x') 'y'))))"},
		{"<b><i><u><s><tt><em><p>x</b>y", "b(i(u(s(tt(em))))) s(tt(em(p(b('x') 'y'))))"},
		{"<b><i><u><s><tt><em><big><p>x</b>y", "b(i(u(s(tt(em(big)))))) tt(em(big(p(b('x') 'y'))))"},
		{"<b><i q=1><u r=2 s=3><p>x</b>y", "b(i q=1(u r=2 s=3)) i q=1(u r=2 s=3(p(b('x') 'y')))"},
		// The new ones are active, not the old ones; the fourth one is active no more.
		{"<b><i><p>x</b></p>y</i>z", "b(i) i(p(b('x')) 'y') 'z'"},
		{"<div><b><i><p>x</b></div>y", "div(b(i) i(p(b('x')))) i('y')"},
		{"<div><b><i><u><s><p>x</b></div>y", "div(b(i(u(s))) i(u(s(p(b('x')))))) i(u(s('y')))"},
		{"<div><b><i><u><s><tt><p>x</b></div>y", "div(b(i(u(s(tt)))) u(s(tt(p(b('x')))))) u(s(tt('y')))"},
		{"<div><b><i><u><s><tt><em><p>x</b></div>y", "div(b(i(u(s(tt(em))))) s(tt(em(p(b('x')))))) s(tt(em('y')))"},
		// Those that are not active are open no more, but they count.
		{"<b><span><p>x</b>y</span>z", "b(span) p(b('x') 'yz')"},
		{"<b><span><i><foo><p>x</b>y", "b(span(i(foo))) i(p(b('x') 'y'))"},
		{"<b><i><span><p>x</b>y", "b(i(span)) i(p(b('x') 'y'))"},
		{"<b><i><span><span><p>x</b>y", "b(i(span(span))) i(p(b('x') 'y'))"},
		{"<b><i><span><span><span><p>x</b>y", "b(i(span(span(span)))) p(b('x') 'y')"},
		{"<b><i><u><span><span><p>x</b>y", "b(i(u(span(span)))) u(p(b('x') 'y'))"},
		{"<div><b><i><span><span><span><p>x</b></div>y", "div(b(i(span(span(span)))) p(b('x'))) 'y'"},
		{"<b><span><span><span><span><p>x</b>y", "b(span(span(span(span)))) p(b('x') 'y')"},
	}.run(t)
}

// divs is a row of so many open divs, one in the other, and in the innermost one what is in.
func divs(n int, in string) string { return strings.Repeat("div(", n) + in + strings.Repeat(")", n) }

// P14.3: up to eight times.
func TestAdoptEightTimes(t *testing.T) {
	for n := 1; n <= 12; n++ {
		// Each time leaves a b behind, ahead of the div in which the next one is.
		want := "b " + strings.Repeat("div(b ", min(n, 8)-1)
		switch {
		case n < 8:
			want += "div(b('x') 'y')"
		case n == 8:
			want += "div(b('xy'))"
		default:
			want += "div(b(" + divs(n-8, "'xy'") + "))"
		}
		want += strings.Repeat(")", min(n, 8)-1)
		wantBody(t, "<b>"+strings.Repeat("<div>", n)+"x</b>y", want)
	}
	// Another end tag goes on.
	wantBody(t, "<b>"+strings.Repeat("<div>", 9)+"x</b></b>y", "b "+strings.Repeat("div(b ", 8)+"div(b('x') 'y')"+strings.Repeat(")", 8))
}

// P14.3: where the new entry stands is told by the order in which elements are opened again, after eight times, when it stays in the list.
func TestAdoptPlace(t *testing.T) {
	nest, out := strings.Repeat("<div>", 8), strings.Repeat("</div>", 8)
	in := func(last string) string {
		return strings.Repeat("div(b ", 7) + "div(" + last + ")" + strings.Repeat(")", 7)
	}
	cases{
		// Nothing between: where e's was.
		{"<b>" + nest + "x</b>" + out + "y", "b " + in("b('x')") + " b('y')"},
		{"<b>" + nest + "<u>x</b>" + out + "y", "b " + in("b(u('x'))") + " b(u('y'))"},
		// One between: just behind its new one.
		{"<section><b><i>" + nest + "x</b></section>y", "section(b(i) i(" + in("b('x')") + ")) i(b('y'))"},
		{"<section><b><i>" + nest + "<u>x</b></section>y", "section(b(i) i(" + in("b(u('x'))") + ")) i(b(u('y')))"},
		{"<section><b><i><u>" + nest + "<s>x</b></section>y", "section(b(i(u)) i(u(" + in("b(s('x'))") + "))) i(u(b(s('y'))))"},
		// A fourth one is gone ahead of it.
		{"<section><b><i><u><s><tt>" + nest + "<em>x</b></section>y", "section(b(i(u(s(tt)))) u(s(tt(" + in("b(em('x'))") + ")))) u(s(tt(b(em('y')))))"},
		{"<section><b><big><i><u><s><tt>" + nest + "<em>x</b></section>y", "section(b(big(i(u(s(tt))))) u(s(tt(" + in("b(em('x'))") + ")))) u(s(tt(b(em('y')))))"},
		{"<section><b><i><u><s><span>" + nest + "<em>x</b></section>y", "section(b(i(u(s(span)))) u(s(" + in("b(em('x'))") + "))) u(s(b(em('y'))))"},
		// Only ones that are gone: where e's was.
		{"<section><b><i><span><span><span>" + nest + "<em>x</b></section>y", "section(b(i(span(span(span)))) " + in("b(em('x'))") + ") b(em('y'))"},
		{"<section><tt><b><i><span><span><span>" + nest + "<em>x</b></section>y", "section(tt(b(i(span(span(span)))) " + in("b(em('x'))") + ")) tt(b(em('y')))"},
	}.run(t)
}

// P14.3: the special element is put ahead of the table, where what stands outside is a part of that.
func TestAdoptIntoTheTablesParent(t *testing.T) {
	cases{
		{"<table><b><p>x</b>y", "b p(b('x') 'y') table"},
		{"<table><tbody><b><p>x</b>y", "b p(b('x') 'y') table(tbody)"},
		{"<table><tfoot><b><p>x</b>y", "b p(b('x') 'y') table(tfoot)"},
		{"<table><thead><b><p>x</b>y", "b p(b('x') 'y') table(thead)"},
		{"<table><tr><b><p>x</b>y", "b p(b('x') 'y') table(tbody(tr))"},
		{"<table><b><i><p>x</b>y", "b(i) i(p(b('x') 'y')) table"},
		{"<div>1<table><b>2<p>3</b>4</table>5", "div('1' b('2') p(b('3') '4') table '5')"},
		{"<table><td><table><b><p>x</b>y", "table(tbody(tr(td(b p(b('x') 'y') table))))"},
		{"<table><a>1<div>2<a>3", "a('1') div(a('2') a('3')) table"},
		// Not where it is a cell or a caption, nor what stands in the table's parent.
		{"<table><td><b><p>x</b>y", "table(tbody(tr(td(b p(b('x') 'y')))))"},
		{"<table><caption><b><p>x</b>y", "table(caption(b p(b('x') 'y')))"},
		{"<table><div><b><p>x</b>y", "div(b p(b('x') 'y')) table"},
		{"<table><i><b><p>x</b>y", "i(b p(b('x') 'y')) table"},
	}.run(t)
}

// P14.4: an end tag that has no rule of its own.
func TestOtherEnd(t *testing.T) {
	cases{
		// Open.
		{"<span>a</span>b", "span('a') 'b'"},
		{"<foo>a<bar>b</foo>c", "foo('a' bar('b')) 'c'"},
		{"<foo>a<foo>b</foo>c</foo>d", "foo('a' foo('b') 'c') 'd'"},
		{"<foo><option><rt><rp>b</foo>c", "foo(option(rt(rp('b')))) 'c'"},
		{"<foo>a<b>b</foo>c", "foo('a' b('b')) b('c')"},
		{"<select>a<option>b</select>c", "select('a' option('b')) 'c'"},
		{"<ruby>a<rt>b</rt>c</ruby>d", "ruby('a' rt('b') 'c') 'd'"},
		{"<option>a<option>b</option>c", "option('a') option('b') 'c'"},
		{"<plaintext>a</plaintext>b", "plaintext('a') 'b'"},
		// Not open.
		{"a</foo>b", "'ab'"},
		{"<span>a</foo>b</span>c", "span('ab') 'c'"},
		{"<foo></foo></foo>a", "foo 'a'"},
		{"a</image>b</img>c</hr>d</input>e</optgroup>f", "'abcdef'"},
		{"a</title>b</style>c</textarea>d</xmp>e", "'abcde'"},
		{"a</table>b</td>c</tr>d</caption>e</head>f</frameset>g", "'abcdefg'"},
		// With a special element further in.
		{"<span>a<div>b</span>c</div>d", "span('a' div('bc') 'd')"},
		{"<foo>a<p>b</foo>c", "foo('a' p('bc'))"},
		{"<foo><li>b</foo>c", "foo(li('bc'))"},
		{"<foo><select>b</foo>c", "foo(select('bc'))"},
		{"<foo><table><td>b</foo>c", "foo(table(tbody(tr(td('bc')))))"},
		{"<foo><table>b</foo>c", "foo('bc' table)"},
		// A special element of that name itself is found.
		{"<select><select>a</select>b</select>c", "select(select('a') 'b') 'c'"},
	}.run(t)
	// An element of the sort implied is not popped by itself, if it has the name that ends.
	wantPieces(t, "(html(head body(option(rp('a')) 'b')))", pieces("<option><rp>a</option>b")...)
}
