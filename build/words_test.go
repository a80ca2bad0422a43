package build_test

import (
	"testing"
)

// P14.2: a text behind a Text is added to it; behind all else it is a new one.
func TestTextBehindText(t *testing.T) {
	wantPieces(t, "(html(head body('ab c')))", text("a"), text("b"), text(" "), text("c"))
	wantPieces(t, "(html(head(' \n') body))", start("head"), text(" "), text("\n"))
	wantPieces(t, "(html(head ' \n' body))", start("head"), end("head"), text(" "), text("\n"))
	wantPieces(t, "(html(head(title('ab')) body))", start("title"), text("a"), text("b"))
	cases{
		{"<p>a<b>b</b>c", "p('a' b('b') 'c')"},
		{"a<!--x-->b", "'a' !x! 'b'"},
		{"a<br>b", "'a' br 'b'"},
		{"a<tr>b</foo>c", "'abc'"},
		{"<p>a</p>b<p>c", "p('a') 'b' p('c')"},
		{"a</body> b</html> c", "'a b c'"},
		// The kid just ahead of its place, not the Text that came last.
		{"<b>1<p>2</b>3</p>4", "b('1') p(b('2') '3') '4'"},
	}.run(t)
}

// P14.2: at the Root there is no text: Blanks ahead of html are dropped, and what is else begins the body.
func TestTextAtTheRoot(t *testing.T) {
	wantPieces(t, "(!a! !b! html(head body))", text(" "), comment("a"), text("\t\n\f "), comment("b"), text(" "))
	wantPieces(t, "(^x !a! html(head body('x')))", text(" "), doctype("x"), text(" "), comment("a"), text(" "), text("x"))
	wantPieces(t, "(html(head body(' x')))", text(" x"))
	wantPieces(t, "(html(head body('\r')))", text("\r"))
	wantPieces(t, "(html(head body('\v')))", text("\v"))
}

// P14.2: in foster sense things stand ahead of the table, where current is a part of it.
func TestFoster(t *testing.T) {
	cases{
		{"<table>a", "'a' table"},
		{"<table>a<tr>b<tbody>c</table>d", "'abc' table(tbody(tr) tbody) 'd'"},
		{"<p>x</p><table>a", "p('x') 'a' table"},
		{"x<table>a", "'xa' table"},
		{"x<!--c--><table>a", "'x' !c! 'a' table"},
		{"<div>x<table>a</table>b</div>", "div('xa' table 'b')"},
		{"<table><br>a", "br 'a' table"},
		{"<table>a<br>b", "'a' br 'b' table"},
		{"<table><tbody>a<tfoot>b<thead>c<tr>d", "'abcd' table(tbody tfoot thead(tr))"},
		{"<table><tr><br><tbody><br><tfoot><img><thead><hr>", "br br img hr table(tbody(tr) tbody tfoot thead)"},
		// Not where current is none of these.
		{"<table><b>a<i>b</i>c", "b('a' i('b') 'c') table"},
		{"<table><td>a<br>b", "table(tbody(tr(td('a' br 'b'))))"},
		{"<table><caption>a<br>b", "table(caption('a' br 'b'))"},
		{"<table><tr><p>a<br>b</p>c", "p('a' br 'b') 'c' table(tbody(tr))"},
		// Ahead of the innermost table that is open.
		{"<table><td><table>a", "table(tbody(tr(td('a' table))))"},
		{"<table><td><table></table><table><tr>a", "table(tbody(tr(td(table 'a' table(tbody(tr))))))"},
		{"<table><td><table></table></td>a", "'a' table(tbody(tr(td(table))))"},
		{"<table></table><table>a", "table 'a' table"},
		// Formatting elements that are opened again, there too.
		{"<p><b></p><table>a", "p(b) b('a') table"},
		{"<p><b></p><table><tr>a<td>b", "p(b) b('a') table(tbody(tr(td('b'))))"},
	}.run(t)
}

// P14.2: to rebuild: nothing is done where the list is empty, or a marker or an open entry is the last one; else all are opened again behind the last one of these, in their order.
func TestRebuild(t *testing.T) {
	cases{
		// Empty.
		{"x<p>y", "'x' p('y')"},
		{"<p><b>x</b></p>y", "p(b('x')) 'y'"},
		// A marker is the last one.
		{"<p><b>x</p><object>y", "p(b('x')) b(object('y'))"},
		{"<b><object>x", "b(object('x'))"},
		{"<p><b></p><table><td>x", "p(b) table(tbody(tr(td('x'))))"},
		{"<p><b></p><table><caption>x", "p(b) table(caption('x'))"},
		// An open entry is the last one, though one ahead of it is not open.
		{"<p><b>1</p><p><i>2", "p(b('1')) p(b(i('2')))"},
		{"<b><p>1</p>2<i>3", "b(p('1') '2' i('3'))"},
		// One, two and more.
		{"<p><b>1</p>2", "p(b('1')) b('2')"},
		{"<p><b><i>1</p>2", "p(b(i('1'))) b(i('2'))"},
		{"<p><b><i><u><s>1</p>2", "p(b(i(u(s('1'))))) b(i(u(s('2'))))"},
		{"<p><b><i><u>1</p>2<p>3</p>4", "p(b(i(u('1')))) b(i(u('2' p('3') '4')))"},
		// To just behind an open one.
		{"<b><p><i><u>1</p>2", "b(p(i(u('1'))) i(u('2')))"},
		{"<b><i><p><u><s>1</p>2", "b(i(p(u(s('1'))) u(s('2'))))"},
		// To just behind a marker.
		{"<b><object><p><i><u>1</p>2", "b(object(p(i(u('1'))) i(u('2'))))"},
		{"<p><b></p><object><p><i>1</p>2", "p(b) b(object(p(i('1')) i('2')))"},
		// With their attributes.
		{"<p><b x=1><i y=2 z=3>1</p>2", "p(b x=1(i y=2 z=3('1'))) b x=1(i y=2 z=3('2'))"},
		// Each of the new ones takes the place of the old one: it is not opened twice, and it is what ends.
		{"<p><b>1</p>2<p>3</p></b>4", "p(b('1')) b('2' p('3')) '4'"},
		{"<p><b><i>1</p>2</i>3</b>4", "p(b(i('1'))) b(i('2') '3') '4'"},
		{"<p><b>1</p><p>2</p><p>3", "p(b('1')) p(b('2')) p(b('3'))"},
		// Three of a kind, and no fourth one.
		{"<p><b><b><b><b>1</p>2", "p(b(b(b(b('1'))))) b(b(b('2')))"},
		{"<p><b><b x=1><b><b>1</p>2", "p(b(b x=1(b(b('1'))))) b(b x=1(b(b('2'))))"},
		{"<p><b><b><b><i><b>1</p>2", "p(b(b(b(i(b('1')))))) b(b(i(b('2'))))"},
	}.run(t)
}

// P14.2: what is implied ends by itself, what is not stays; a p ends up to a border.
func TestImplyAndCloseP(t *testing.T) {
	cases{
		{"<div><p><rt><option>a</div>b", "div(p(rt(option('a')))) 'b'"},
		{"<p><option><rp>a<p>b", "p(option(rp('a'))) p('b')"},
		{"<p><span>a<p>b", "p(span('a')) p('b')"},
		{"<p><b><span>a<div>b", "p(b(span('a'))) div(b('b'))"},
		{"<p><button>a<p>b", "p(button('a' p('b')))"},
		{"<p><object>a<p>b", "p(object('a' p('b')))"},
		{"<p><applet>a<div>b", "p(applet('a' div('b')))"},
		{"<table><td><p>a<table><td><p>b", "table(tbody(tr(td(p('a') table(tbody(tr(td(p('b')))))))))"},
		{"<table><caption><p>a<p>b", "table(caption(p('a') p('b')))"},
		{"<p>a<table><p>b", "p('a') p('b') table"},
	}.run(t)
}

// P14.2: the mode behind a table is the one of what it stands in.
func TestRaised(t *testing.T) {
	cases{
		{"<table></table>a<tr>b", "table 'ab'"},
		{"<div><table></table>a<tr>b", "div(table 'ab')"},
		{"<table><td><table></table>a<td>b", "table(tbody(tr(td(table 'a') td('b'))))"},
		{"<table><th><table></table>a<tr>b<td>c", "'b' table(tbody(tr(th(table 'a')) tr(td('c'))))"},
		{"<table><td><div><table></table>a<td>b", "table(tbody(tr(td(div(table 'a')) td('b'))))"},
		{"<table><caption><table></table>a<tr><td>b", "table(caption(table 'a') tbody(tr(td('b'))))"},
		{"<table><caption><b><table></table>a</caption>b<td>c", "'b' table(caption(b(table 'a')) tbody(tr(td('c'))))"},
		{"<object><table></table>a<tr>b", "object(table 'ab')"},
		// By a start tag of a table in a table, too.
		{"<table><table></table>a", "table table 'a'"},
		{"<table><td><table><tr><table>a<td>b", "table(tbody(tr(td(table(tbody(tr)) 'a' table(tbody(tr(td('b'))))))))"},
	}.run(t)
}
