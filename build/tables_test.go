package build_test

import (
	"slices"
	"strings"
	"testing"
)

// parts are the names of what a table consists of.
var parts = words("caption col colgroup tbody td tfoot th thead tr")

// P14.7: the mode table.
func TestModeTable(t *testing.T) {
	cases{
		{"<table> <!--c-->\n", "table(' ' !c! '\n')"},
		{"<table><b> <!--c-->", "b(' ' !c!) table"},
		{"<p><b></p><table> ", "p(b) table(' ')"},
		{"<table><!doctype x><!--c-->", "table(!c!)"},
		{"<table><caption a=1>x", "table(caption a=1('x'))"},
		{"<table><p><b>x<caption>y", "p(b('x')) table(caption('y'))"},
		{"<table><colgroup a=1><col b=2>", "table(colgroup a=1(col b=2))"},
		{"<table><p>x<colgroup>", "p('x') table(colgroup)"},
		{"<table><col a=1><col b=2>", "table(colgroup(col a=1 col b=2))"},
		{"<table><p>x<col>", "p('x') table(colgroup(col))"},
		{"<table><tbody a=1><tfoot b=2><thead c=3>", "table(tbody a=1 tfoot b=2 thead c=3)"},
		{"<table><p>x<tbody><tr><td>y", "p('x') table(tbody(tr(td('y'))))"},
		{"<table><td a=1>x", "table(tbody(tr(td a=1('x'))))"},
		{"<table><th a=1>x", "table(tbody(tr(th a=1('x'))))"},
		{"<table><tr a=1><td>x", "table(tbody(tr a=1(td('x'))))"},
		{"<table><p>x<td>y", "p('x') table(tbody(tr(td('y'))))"},
		{"<table><table a=1>x", "table 'x' table a=1"},
		{"<table><p>x<table>y", "p('x') table 'y' table"},
		{"<div><table><div><table>x", "div(div table 'x' table)"},
		{"<table></table>x", "table 'x'"},
		{"<table><p>x</table>y", "p('x') table 'y'"},
		{"<table><style a=1>x</style><script>y</script><!--c-->", "table(style a=1('x') script('y') !c!)"},
		{"<table><b><style>x</style>y", "b(style('x') 'y') table"},
		{"<table>", "table"},
		{"<table><p>", "p table"},
	}.run(t)
	for _, name := range append(words("body html"), parts...) {
		wantBody(t, "<table></"+name+">x<!--c-->", "'x' table(!c!)")
		wantBody(t, "<table><p>x</"+name+">y", "p('xy') table")
	}
}

// P14.7: all else in a table is as in the body, in foster sense.
func TestModeTableElse(t *testing.T) {
	cases{
		{"<table>x y", "'xy' table(' ')"},
		{"<table><p>x y", "p('x y') table"},
		{"<table><b>x</b>y", "b('x') 'y' table"},
		{"<table><div>x</div>y", "div('x') 'y' table"},
		{"<table><div>x</table>y", "div('x') table 'y'"},
		{"<table><ul><li>x<li>y", "ul(li('x') li('y')) table"},
		{"<table><h1>x</h2>y", "h1('x') 'y' table"},
		{"<table><hr><input><img>", "hr input img table"},
		{"<table><meta><base><title>x</title>", "meta base title('x') table"},
		{"<table><textarea>x</textarea>y", "textarea('x') 'y' table"},
		{"<table><foo>x</foo>y", "foo('x') 'y' table"},
		{"<table></foo></b></div>x", "'x' table"},
		{"<table></br>x", "br 'x' table"},
		{"<table><frameset><frame><head>x", "'x' table"},
		{"<table><object>x<tr>y", "object('x') 'y' table(tbody(tr))"},
		{"<table><form>x</form>y", "form('x') 'y' table"},
		{"<table><button>x<button>y", "button('x') button('y') table"},
		{"<table><a>x<a>y", "a('x') a('y') table"},
		{"<table><b>1<tr>2<td>3</table>4", "b('1') b('2') table(tbody(tr(td('3')))) b('4')"},
		{"<table><image a=1>", "img a=1 table"},
	}.run(t)
}

// P14.7: the mode caption.
func TestModeCaption(t *testing.T) {
	cases{
		{"<table><caption>x</caption>y", "'y' table(caption('x'))"},
		{"<table><caption><p>x</caption>y", "'y' table(caption(p('x')))"},
		{"<table><caption><b>x</caption>y", "'y' table(caption(b('x')))"},
		{"<b><table><caption>x</caption>y", "b('y' table(caption('x')))"},
		{"<table><caption><div><span>x</caption>y", "'y' table(caption(div(span('x'))))"},
		{"<table><caption>x</table>y", "table(caption('x')) 'y'"},
		{"<table><caption><p><b>x</table>y", "table(caption(p(b('x')))) 'y'"},
		{"<table><caption>x<caption>y", "table(caption('x') caption('y'))"},
		{"<table><caption>x<col>", "table(caption('x') colgroup(col))"},
		{"<table><caption>x<colgroup a=1>", "table(caption('x') colgroup a=1)"},
		{"<table><caption>x<tbody>y", "'y' table(caption('x') tbody)"},
		{"<table><caption>x<tfoot>y", "'y' table(caption('x') tfoot)"},
		{"<table><caption>x<thead>y", "'y' table(caption('x') thead)"},
		{"<table><caption>x<tr>y", "'y' table(caption('x') tbody(tr))"},
		{"<table><caption>x<td>y", "table(caption('x') tbody(tr(td('y'))))"},
		{"<table><caption>x<th>y", "table(caption('x') tbody(tr(th('y'))))"},
		// What is active in it ends with it, by each of these.
		{"<table><caption><b>x<td>y", "table(caption(b('x')) tbody(tr(td('y'))))"},
		{"<table><caption><b>x</table>y", "table(caption(b('x'))) 'y'"},
		{"<p><i></p><table><caption><b>x</table>y", "p(i) table(caption(b('x'))) i('y')"},
		// All else is as in the body, and not in foster sense.
		{"<table><caption>x <!--c--><p>y<br>z", "table(caption('x ' !c! p('y' br 'z')))"},
		{"<table><caption><!doctype x></p></br></foo>x", "table(caption(p br 'x'))"},
		{"<table><caption><title>x</title><style>y</style>z", "table(caption(title('x') style('y') 'z'))"},
		{"<p><b></p><table><caption>x", "p(b) table(caption('x'))"},
		{"<table><caption>", "table(caption)"},
		// A table in it.
		{"<table><caption><table>x", "table(caption('x' table))"},
		{"<table><caption><p>x<table><td>y</table>z</caption>w", "'w' table(caption(p('x') table(tbody(tr(td('y')))) 'z'))"},
		{"<table><caption><table><caption>x</caption></table>y<tr>z", "'z' table(caption(table(caption('x')) 'y') tbody(tr))"},
	}.run(t)
	for _, name := range words("body col colgroup html tbody td tfoot th thead tr") {
		wantBody(t, "<table><caption><p>x</"+name+">y", "table(caption(p('xy')))")
	}
}

// P14.7: the mode columns.
func TestModeColumns(t *testing.T) {
	cases{
		{"<table><colgroup> <!--c-->\n", "table(colgroup(' ' !c! '\n'))"},
		{"<table><colgroup><!doctype x></col><!--c-->", "table(colgroup(!c!))"},
		{"<table><colgroup><col a=1></col><col>", "table(colgroup(col a=1 col))"},
		{"<table><colgroup></colgroup><!--c-->", "table(colgroup !c!)"},
		{"<table><colgroup></colgroup></colgroup><!--c-->", "table(colgroup !c!)"},
		{"<table><colgroup>", "table(colgroup)"},
		{"<table><col></colgroup><col>", "table(colgroup(col) colgroup(col))"},
		// All else ends it.
		{"<table><colgroup>x<!--c-->", "'x' table(colgroup !c!)"},
		{"<table><colgroup> x<col>", "'x' table(colgroup(' ') colgroup(col))"},
		{"<table><colgroup><colgroup a=1>", "table(colgroup colgroup a=1)"},
		{"<table><colgroup><caption>x", "table(colgroup caption('x'))"},
		{"<table><colgroup><tr><td>x", "table(colgroup tbody(tr(td('x'))))"},
		{"<table><colgroup><td>x", "table(colgroup tbody(tr(td('x'))))"},
		{"<table><colgroup><tbody><!--c-->", "table(colgroup tbody(!c!))"},
		{"<table><colgroup></table>x", "table(colgroup) 'x'"},
		{"<table><colgroup><table>x", "table(colgroup) 'x' table"},
		{"<table><colgroup><p>x", "p('x') table(colgroup)"},
		{"<table><colgroup></p>x", "p 'x' table(colgroup)"},
		{"<table><colgroup></foo><!--c-->", "table(colgroup !c!)"},
		{"<table><colgroup></body><!--c-->", "table(colgroup !c!)"},
		{"<table><colgroup></tr><!--c-->", "table(colgroup !c!)"},
		{"<table><colgroup><script>x</script><!--c-->", "table(colgroup script('x') !c!)"},
	}.run(t)
}

// P14.7: the mode tbody, in each of its three.
func TestModeTbody(t *testing.T) {
	for _, in := range words("tbody tfoot thead") {
		open := "<table><" + in + ">"
		with := func(kids string) string {
			if kids != "" {
				kids = "(" + kids + ")"
			}
			return "table(" + in + kids
		}
		cases{
			{open + "<tr a=1><!--c-->", with("tr a=1(!c!)") + ")"},
			{open + "<b>x<tr><!--c-->", "b('x') " + with("tr(!c!)") + ")"},
			{open + "<td a=1>x", with("tr(td a=1('x'))") + ")"},
			{open + "<th a=1>x", with("tr(th a=1('x'))") + ")"},
			{open + "<p>x<td>y", "p('x') " + with("tr(td('y'))") + ")"},
			{open + "</" + in + "><!--c-->", with("") + " !c!)"},
			{open + "<p>x</" + in + "><!--c-->", "p('x') " + with("") + " !c!)"},
			{open + "<caption>x", with("") + " caption('x'))"},
			{open + "<col>", with("") + " colgroup(col))"},
			{open + "<colgroup>", with("") + " colgroup)"},
			{open + "<tbody><!--c-->", with("") + " tbody(!c!))"},
			{open + "<tfoot><!--c-->", with("") + " tfoot(!c!))"},
			{open + "<thead><!--c-->", with("") + " thead(!c!))"},
			{open + "<p>x<thead><!--c-->", "p('x') " + with("") + " thead(!c!))"},
			{open + "</table>x", with("") + ") 'x'"},
			{open + "<p>x</table>y", "p('x') " + with("") + ") 'y'"},
			// All else is as in the table.
			{open + " <!--c-->", with("' ' !c!") + ")"},
			{open + "<!doctype x><!--c-->", with("!c!") + ")"},
			{open + "x<b>y</b><br>z", "'x' b('y') br 'z' " + with("") + ")"},
			{open + "<style>x</style><!--c-->", with("style('x') !c!") + ")"},
			{open + "<title>x</title><!--c-->", "title('x') " + with("!c!") + ")"},
			{open + "<table>x", with("") + ") 'x' table"},
			{open + "</p></br></foo>x", "p br 'x' " + with("") + ")"},
			{open, with("") + ")"},
		}.run(t)
		for _, name := range slices.Concat(words("body caption col colgroup html td th tr"), slices.DeleteFunc(words("tbody tfoot thead"), func(x string) bool { return x == in })) {
			wantBody(t, open+"</"+name+"><!--c-->", with("!c!")+")")
			wantBody(t, open+"<b>x</"+name+">y", "b('xy') "+with("")+")")
		}
	}
}

// P14.7: the mode row.
func TestModeRow(t *testing.T) {
	cases{
		{"<table><tr><td a=1>x<th b=2>y", "table(tbody(tr(td a=1('x') th b=2('y'))))"},
		{"<table><tr><b>x<td>y", "b('x') table(tbody(tr(td('y'))))"},
		{"<table><tr></tr><!--c-->", "table(tbody(tr !c!))"},
		{"<table><tr><p>x</tr><!--c-->", "p('x') table(tbody(tr !c!))"},
		{"<table><tr><caption>x", "table(tbody(tr) caption('x'))"},
		{"<table><tr><col>", "table(tbody(tr) colgroup(col))"},
		{"<table><tr><colgroup>", "table(tbody(tr) colgroup)"},
		{"<table><tr><tbody><!--c-->", "table(tbody(tr) tbody(!c!))"},
		{"<table><tr><tfoot><!--c-->", "table(tbody(tr) tfoot(!c!))"},
		{"<table><tr><thead><!--c-->", "table(tbody(tr) thead(!c!))"},
		{"<table><tr><tr a=1><!--c-->", "table(tbody(tr tr a=1(!c!)))"},
		{"<table><tr></table>x", "table(tbody(tr)) 'x'"},
		{"<table><tr><p>x</table>y", "p('x') table(tbody(tr)) 'y'"},
		{"<table><tr></tbody><!--c-->", "table(tbody(tr) !c!)"},
		{"<table><tr></tfoot><!--c-->", "table(tbody(tr(!c!)))"},
		{"<table><tr></thead><!--c-->", "table(tbody(tr(!c!)))"},
		{"<table><tfoot><tr></tfoot><!--c-->", "table(tfoot(tr) !c!)"},
		{"<table><thead><tr></thead><!--c-->", "table(thead(tr) !c!)"},
		{"<table><thead><tr></tbody><!--c-->", "table(thead(tr(!c!)))"},
		// All else is as in the table.
		{"<table><tr> <!--c-->", "table(tbody(tr(' ' !c!)))"},
		{"<table><tr><!doctype x>x<br>", "'x' br table(tbody(tr))"},
		{"<table><tr><script>x</script><!--c-->", "table(tbody(tr(script('x') !c!)))"},
		{"<table><tr><table>x", "table(tbody(tr)) 'x' table"},
		{"<table><tr></p></br></foo>x", "p br 'x' table(tbody(tr))"},
		{"<table><tr>", "table(tbody(tr))"},
		// A cell's marker: what is active outside is not opened again in it.
		{"<table><tr><b>x<td>y<td>z</table>w", "b('x') table(tbody(tr(td('y') td('z')))) b('w')"},
	}.run(t)
	for _, name := range words("body caption col colgroup html td th") {
		wantBody(t, "<table><tr></"+name+"><!--c-->", "table(tbody(tr(!c!)))")
		wantBody(t, "<table><tr><b>x</"+name+">y", "b('xy') table(tbody(tr))")
	}
}

// P14.7: the mode cell, in both of its two.
func TestModeCell(t *testing.T) {
	for _, in := range words("td th") {
		open := "<table><" + in + ">"
		other := map[string]string{"td": "th", "th": "td"}[in]
		row := func(kids string) string { return "table(tbody(tr(" + kids + ")))" }
		cases{
			{open + "x</" + in + "><!--c-->", row(in + "('x') !c!")},
			{open + "<p>x</" + in + "><!--c-->", row(in + "(p('x')) !c!")},
			{open + "<div><b>x</" + in + ">y", "'y' " + row(in+"(div(b('x')))")},
			{open + "<b>x</" + in + "><td>y", row(in + "(b('x')) td('y')")},
			{open + "x</" + other + ">y", row(in + "('xy')")},
			{open + "x<td a=1>y", row(in + "('x') td a=1('y')")},
			{open + "x<th a=1>y", row(in + "('x') th a=1('y')")},
			{open + "<p><b>x<td>y", row(in + "(p(b('x'))) td('y')")},
			{open + "x<tr a=1><!--c-->", "table(tbody(tr(" + in + "('x')) tr a=1(!c!)))"},
			{open + "x<tbody><!--c-->", "table(tbody(tr(" + in + "('x'))) tbody(!c!))"},
			{open + "x<tfoot><!--c-->", "table(tbody(tr(" + in + "('x'))) tfoot(!c!))"},
			{open + "x<thead><!--c-->", "table(tbody(tr(" + in + "('x'))) thead(!c!))"},
			{open + "x<caption>y", "table(tbody(tr(" + in + "('x'))) caption('y'))"},
			{open + "x<col>", "table(tbody(tr(" + in + "('x'))) colgroup(col))"},
			{open + "x<colgroup>", "table(tbody(tr(" + in + "('x'))) colgroup)"},
			{open + "x</table>y", row(in+"('x')") + " 'y'"},
			{open + "<p><b>x</table>y", row(in+"(p(b('x')))") + " 'y'"},
			{open + "x</tbody><!--c-->", "table(tbody(tr(" + in + "('x'))) !c!)"},
			{open + "x</tr><!--c-->", "table(tbody(tr(" + in + "('x')) !c!))"},
			{open + "x</tfoot>y</thead>z", row(in + "('xyz')")},
			{"<table><tfoot><" + in + ">x</tfoot><!--c-->", "table(tfoot(tr(" + in + "('x'))) !c!)"},
			{"<table><thead><" + in + ">x</thead><!--c-->", "table(thead(tr(" + in + "('x'))) !c!)"},
			// All else is as in the body, and not in foster sense.
			{open + "x <!--c--><p>y<br>z<!doctype x>", row(in + "('x ' !c! p('y' br 'z'))")},
			{open + "</p></br></foo>x", row(in + "(p br 'x')")},
			{open + "<title>x</title><style>y</style>z", row(in + "(title('x') style('y') 'z')")},
			{open, row(in)},
			// A table in it.
			{open + "<table><" + in + ">x</table>y</" + in + "><!--c-->", row(in + "(table(tbody(tr(" + in + "('x')))) 'y') !c!")},
			{open + "<p>x<table>y</table>z", row(in + "(p('x') 'y' table 'z')")},
			{open + "<table><tr></" + in + ">x", row(in + "('x' table(tbody(tr)))")},
		}.run(t)
		for _, name := range words("body caption col colgroup html") {
			wantBody(t, open+"<p>x</"+name+">y", row(in+"(p('xy'))"))
		}
	}
}

// P14.7: tables in tables: the parts of the inner one end with it, and the outer one goes on.
func TestTablesInTables(t *testing.T) {
	cases{
		{"<table><td>1<table><td>2<table><td>3</table>4</table>5</table>6", "table(tbody(tr(td('1' table(tbody(tr(td('2' table(tbody(tr(td('3')))) '4')))) '5')))) '6'"},
		{"<table><td><table><tr><tbody></table><td>x", "table(tbody(tr(td(table(tbody(tr) tbody)) td('x'))))"},
		{"<table><td><table><caption><table><td>x</table>y</table>z", "table(tbody(tr(td(table(caption(table(tbody(tr(td('x')))) 'y')) 'z'))))"},
		{"<table><td><table></td>x", "table(tbody(tr(td('x' table))))"},
		{"<table><td><table></tr>x", "table(tbody(tr(td('x' table))))"},
		{"<table><tr><td><table><td></table></tr><!--c-->", "table(tbody(tr(td(table(tbody(tr(td))))) !c!))"},
		{"<table><td><b>1<table><td>2<i>3</table>4</table>5", "table(tbody(tr(td(b('1' table(tbody(tr(td('2' i('3'))))) '4'))))) '5'"},
		{"<b>1<table>2<td>3<i>4</table>5", "b('12' table(tbody(tr(td('3' i('4'))))) '5')"},
		{"<table></table><table></table>x", "table table 'x'"},
	}.run(t)
	n := 13
	deep := strings.Repeat("<table><td>", n)
	wantBody(t, deep+"x"+strings.Repeat("</table>", n)+"y", strings.Repeat("table(tbody(tr(td(", n)+"'x'"+strings.Repeat("))))", n)+" 'y'")
}
