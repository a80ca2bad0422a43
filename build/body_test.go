package build_test

import (
	"slices"
	"strings"
	"testing"

	"topiary/stack"
)

// named are the names of a sort.
func named(sort int) []string {
	return slices.DeleteFunc(slices.Clone(allNames), func(name string) bool { return !stack.Is(name, sort) })
}

// P14.6: texts, comments, doctypes, and the end of all.
func TestBodyPieces(t *testing.T) {
	cases{
		{"<p><b>1</p>x", "p(b('1')) b('x')"},
		{"<p><b>1</p> ", "p(b('1')) b(' ')"},
		{"<p><b>1</p><!--c-->", "p(b('1')) !c!"},
		{"<p><b>1</p><!doctype x>", "p(b('1'))"},
		{"<p><b>1</p>", "p(b('1'))"},
		{"<p>x<!doctype y>z<!--c-->", "p('xz' !c!)"},
	}.run(t)
}

// P14.6: html and body once more: the attributes that there are not.
func TestBodyHTMLAndBody(t *testing.T) {
	wholes{
		{"<body><html a=1>", "(html a=1(head body))"},
		{"<html b=1><body><p><html a=2 b=3 c=4>x", "(html a=2 b=1 c=4(head body(p('x'))))"},
		{"<html b=1><html a=2><html a=3 c=4><html d=5>", "(html a=2 b=1 c=4 d=5(head body))"},
		{"<html a><body><html a=1>", "(html a=(head body))"},
		{"<body b=1><body a=2 b=3 c=4>x", "(html(head body a=2 b=1 c=4('x')))"},
		{"<p><body a=1>x", "(html(head body a=1(p('x'))))"},
		{"<table><body a=1>x", "(html(head body a=1('x' table)))"},
		{"<table><td><body a=1><html b=2>x", "(html b=2(head body a=1(table(tbody(tr(td('x')))))))"},
		{"<p><b></p><body a=1><!--c-->", "(html(head body a=1(p(b) !c!)))"},
	}.run(t)
}

// P14.6: the start tags of the sort head are as in the head.
func TestBodyHeadSort(t *testing.T) {
	for _, name := range words("base link meta") {
		wantBody(t, "<p>x<"+name+" a=1>y", "p('x' "+name+" a=1 'y')")
		wantBody(t, "<p><b></p><"+name+">", "p(b) "+name)
	}
	for _, name := range words("title style script noframes") {
		wantBody(t, "<p>x<"+name+" a=1>y</"+name+">z", "p('x' "+name+" a=1('y') 'z')")
		wantBody(t, "<p><b></p><"+name+">y", "p(b) "+name+"('y')")
	}
}

// P14.6: start tags that are dropped: nothing is opened again, nothing ends.
func TestBodyDropped(t *testing.T) {
	for _, name := range words("frameset caption col colgroup frame head tbody td tfoot th thead tr") {
		wantBody(t, "<p>x<"+name+" a=1>y", "p('xy')")
		wantBody(t, "<p><b></p><"+name+"><!--c-->", "p(b) !c!")
	}
}

// P14.6: blocks, p, listing and plaintext end a p; no formatting element is opened again ahead of them.
func TestBodyBlocks(t *testing.T) {
	names := append(named(6), "p", "listing", "plaintext")
	if len(names) != 28 {
		t.Fatal(names)
	}
	for _, name := range names {
		cases{
			{"x<" + name + " a=1>y", "'x' " + name + " a=1('y')"},
			{"<p>x<" + name + ">y", "p('x') " + name + "('y')"},
			{"<p><b>x<" + name + ">y", "p(b('x')) " + name + "(b('y'))"},
			{"<p><option><rt>x<" + name + ">y", "p(option(rt('x'))) " + name + "('y')"},
			{"<p><button>x<" + name + ">y", "p(button('x' " + name + "('y')))"},
			{"<b>x<" + name + ">y", "b('x' " + name + "('y'))"},
			{"<table><" + name + ">y", name + "('y') table"},
		}.run(t)
	}
	for _, name := range append(named(6), "plaintext") {
		wantBody(t, "<"+name+">x<"+name+">y", name+"('x' "+name+"('y'))")
	}
}

// P14.6: a heading ends a p, and a heading that is current.
func TestBodyHeadings(t *testing.T) {
	for _, name := range named(5) {
		cases{
			{"<p>x<" + name + " a=1>y", "p('x') " + name + " a=1('y')"},
			{"<h1>x<" + name + ">y", "h1('x') " + name + "('y')"},
			{"<" + name + ">x<h6>y", name + "('x') h6('y')"},
			{"<h2><b>x<" + name + ">y", "h2(b('x' " + name + "('y')))"},
			{"<h2><p>x<" + name + ">y", "h2(p('x')) " + name + "('y')"},
			{"<h2><div>x<" + name + ">y", "h2(div('x' " + name + "('y')))"},
			{"<p><b></p><" + name + ">y", "p(b) " + name + "(b('y'))"},
		}.run(t)
	}
}

// P14.6: an li ends the li that is open, up to a special element but address, div, p; so do dd and dt, both of them.
func TestBodyItems(t *testing.T) {
	others := map[string][]string{"li": {"li"}, "dd": {"dd", "dt"}, "dt": {"dt", "dd"}}
	for name, ended := range others {
		for _, other := range ended {
			cases{
				{"<" + other + ">x<" + name + " a=1>y", other + "('x') " + name + " a=1('y')"},
				{"<" + other + "><p>x<" + name + ">y", other + "(p('x')) " + name + "('y')"},
				{"<" + other + "><div>x<" + name + ">y", other + "(div('x')) " + name + "('y')"},
				{"<" + other + "><address>x<" + name + ">y", other + "(address('x')) " + name + "('y')"},
				{"<" + other + "><div><span><p><foo>x<" + name + ">y", other + "(div(span(p(foo('x'))))) " + name + "('y')"},
				{"<" + other + "><b>x<" + name + ">y", other + "(b('x')) " + name + "(b('y'))"},
				{"<" + other + "><option><rt>x<" + name + ">y", other + "(option(rt('x'))) " + name + "('y')"},
				{"<" + other + "><section>x<" + name + ">y", other + "(section('x' " + name + "('y')))"},
				{"<" + other + "><div><section><div>x<" + name + ">y", other + "(div(section(div('x' " + name + "('y')))))"},
			}.run(t)
		}
		// Behind each special name that may stand open there.
		for _, special := range named(2) {
			if stack.Is(special, 1) || slices.Contains(append(slices.Clone(raws), words("html head body caption col colgroup tbody td tfoot th thead tr table address div p "+strings.Join(ended, " "))...), special) {
				continue
			}
			wantBody(t, "<"+name+"><"+special+">x<"+name+">y", name+"("+special+"('x' "+name+"('y')))")
		}
		for _, part := range []string{"<table><td>", "<table><th>", "<table><caption>"} {
			wantSecond(t, pieces("<"+name+">"+part+"x<"+name+">y<"+name+">z</table>w"))
		}
		cases{
			{"<p>x<" + name + ">y", "p('x') " + name + "('y')"},
			{"<p><b></p><" + name + ">y", "p(b) " + name + "(b('y'))"},
			{"<p><button>x<" + name + ">y", "p(button('x' " + name + "('y')))"},
			{"<" + name + "><table><td>x<" + name + ">y", name + "(table(tbody(tr(td('x' " + name + "('y'))))))"},
			{"<" + name + "><table><" + name + ">y", name + "(" + name + "('y') table)"},
		}.run(t)
	}
	cases{
		{"<li>x<dd>y<li>z", "li('x' dd('y' li('z')))"},
		{"<dd>x<li>y<dt>z", "dd('x' li('y' dt('z')))"},
		{"<ul><li>x<li>y</ul>z", "ul(li('x') li('y')) 'z'"},
	}.run(t)
}

// P14.6: a button in a button.
func TestBodyButton(t *testing.T) {
	cases{
		{"<button a=1>x<button>y", "button a=1('x') button('y')"},
		{"<button><p>x<button>y", "button(p('x')) button('y')"},
		{"<button><div><span>x<button>y", "button(div(span('x'))) button('y')"},
		{"<button><b>x<button>y", "button(b('x')) b(button('y'))"},
		{"<button><object>x<button>y", "button(object('x' button('y')))"},
		{"<p>x<button>y", "p('x' button('y'))"},
		{"<p><b>x</p><button>y", "p(b('x')) b(button('y'))"},
		{"<button><table><button>x", "button(button('x') table)"},
		{"<button><ul><li>x<button>y", "button(ul(li('x'))) button('y')"},
	}.run(t)
}

// P14.6: an a in an a, and a nobr in a nobr.
func TestBodyLinks(t *testing.T) {
	cases{
		{"<a b=1>x<a>y", "a b=1('x') a('y')"},
		{"<a>x<b>y<a>z", "a('x' b('y')) b(a('z'))"},
		{"<a>1<div>2<a>3", "a('1') div(a('2') a('3'))"},
		{"<p><a>x</p><a>y", "p(a('x')) a('y')"},
		{"<p><a>x</p>y<a>z", "p(a('x')) a('y') a('z')"},
		{"<a>x</a>y<a>z", "a('x') 'y' a('z')"},
		{"<a><object><a>x", "a(object(a('x')))"},
		{"<a><object><a>x</object>y", "a(object(a('x')) 'y')"},
		{"<a>x<table><td><a>y", "a('x' table(tbody(tr(td(a('y'))))))"},
		// Where adopt ends early the entry is gone, and the element is not open any more.
		{"<a>x<table><a>y</table>z", "a('x' a('y') table) a('z')"},
		{"<a>x<table><a>y</a></table>z", "a('x' a('y') table) 'z'"},
		{"<div><a>x<table></a><a>y</a></table>z", "div(a('x' a('y') table) 'z')"},
		{"<a>1" + strings.Repeat("<div>", 9) + "2<a>3", "a('1') " + strings.Repeat("div(a ", 7) + "div(a(div('2' a('3'))))" + strings.Repeat(")", 7)},
		// A nobr is asked by its scope.
		{"<nobr b=1>x<nobr>y", "nobr b=1('x') nobr('y')"},
		{"<nobr>x<b>y<nobr>z", "nobr('x' b('y')) b(nobr('z'))"},
		{"<nobr>1<div>2<nobr>3", "nobr('1') div(nobr('2') nobr('3'))"},
		{"<p><nobr>x</p><nobr>y", "p(nobr('x')) nobr nobr('y')"},
		{"<p><b><nobr>x</p><nobr>y", "p(b(nobr('x'))) b(nobr nobr('y'))"},
		{"<nobr><object><nobr>x", "nobr(object(nobr('x')))"},
		{"<nobr>x<table><nobr>y", "nobr('x' nobr('y') table)"},
		{"<nobr>x<table><nobr>y<nobr>z", "nobr('x' nobr('y') nobr('z') table)"},
	}.run(t)
}

// P14.6: all other formatting elements.
func TestBodyFormat(t *testing.T) {
	for _, name := range named(3) {
		cases{
			{"<p>x<" + name + " k=1>y", "p('x' " + name + " k=1('y'))"},
			{"<p><" + name + ">x</p>y", "p(" + name + "('x')) " + name + "('y')"},
			{"<p><" + name + ">x</" + name + ">y</p>z", "p(" + name + "('x') 'y') 'z'"},
			{"<" + name + ">1<p>2</" + name + ">3", name + "('1') p(" + name + "('2') '3')"},
			{"<p><kbd>x<" + name + ">y</p>z", "p(kbd('x' " + name + "('y'))) " + name + "('z')"},
		}.run(t)
		if name != "a" && name != "nobr" {
			wantBody(t, "<"+name+">x<"+name+">y</"+name+">z", name+"('x' "+name+"('y') 'z')")
		}
		if name != "u" {
			wantBody(t, "<p><u>x</p><"+name+">y", "p(u('x')) u("+name+"('y'))")
		}
	}
}

// P14.6: markers: what is active outside is not opened again in them, what is active in them ends with them.
func TestBodyMarkers(t *testing.T) {
	for _, name := range named(7) {
		cases{
			{"<p><b>1</p><" + name + " k=1>2", "p(b('1')) b(" + name + " k=1('2'))"},
			{"<b><" + name + "><p>1</p>2</" + name + ">3", "b(" + name + "(p('1') '2') '3')"},
			{"<" + name + "><b>1</" + name + ">2", name + "(b('1')) '2'"},
			{"<i><" + name + "><b>1</" + name + ">2<p>3", "i(" + name + "(b('1')) '2' p('3'))"},
			{"<div><i><" + name + "><b>1</" + name + "></div>2", "div(i(" + name + "(b('1')))) i('2')"},
			{"<" + name + "><p>1</" + name + ">2", name + "(p('1')) '2'"},
			{"<" + name + "><" + name + ">1</" + name + ">2</" + name + ">3", name + "(" + name + "('1') '2') '3'"},
			// Not open, or behind a border: nothing is cleared.
			{"<p><b>1</p></" + name + ">2", "p(b('1')) b('2')"},
			{"<" + name + "><b><table></" + name + ">1", name + "(b('1' table))"},
			{"<" + name + "><table><td><p><b>1</p></" + name + ">2", name + "(table(tbody(tr(td(p(b('1')) b('2'))))))"},
			// Of an end tag of another marker that is open, too.
			{"<b><" + name + ">1</b>2", "b(" + name + "('12'))"},
		}.run(t)
	}
	cases{
		{"<object><marquee>1</object>2", "object(marquee('12'))"},
		{"<applet><b><object>1</applet>2", "applet(b(object('12')))"},
	}.run(t)
}

// P14.6: a table in the body.
func TestBodyTable(t *testing.T) {
	cases{
		{"<p>x<table a=1>", "p('x') table a=1"},
		{"<p><b>x<table>", "p(b('x')) table"},
		{"<p><button>x<table>", "p(button('x' table))"},
		{"<b>x<table><tr><td>y", "b('x' table(tbody(tr(td('y')))))"},
	}.run(t)
}

// P14.6: elements that are left at once, and image.
func TestBodyLeft(t *testing.T) {
	for _, name := range words("area br embed img input wbr") {
		cases{
			{"<p>x<" + name + " a=1>y", "p('x' " + name + " a=1 'y')"},
			{"<p><b></p><" + name + ">", "p(b) b(" + name + ")"},
			{"<table><" + name + ">", name + " table"},
		}.run(t)
	}
	for _, name := range words("param source track") {
		cases{
			{"<p>x<" + name + " a=1>y", "p('x' " + name + " a=1 'y')"},
			{"<p><b></p><" + name + ">", "p(b) " + name},
			{"<table><" + name + ">", name + " table"},
		}.run(t)
	}
	cases{
		{"<p>x<image a=1>y", "p('x' img a=1 'y')"},
		{"<p><b></p><image>", "p(b) b(img)"},
		{"<p>x<hr a=1>y", "p('x') hr a=1 'y'"},
		{"<p><b></p><hr>", "p(b) hr"},
		{"<p><button>x<hr>y", "p(button('x' hr 'y'))"},
	}.run(t)
}

// P14.6: raw elements of the body.
func TestBodyRaw(t *testing.T) {
	for _, name := range words("textarea iframe noembed") {
		wantBody(t, "<p>x<"+name+" a=1>y</"+name+">z", "p('x' "+name+" a=1('y') 'z')")
		wantBody(t, "<p><b></p><"+name+">y", "p(b) "+name+"('y')")
	}
	wantBody(t, "<p>x<xmp a=1>y</xmp>z", "p('x') xmp a=1('y') 'z'")
	wantBody(t, "<p><b>x<xmp>y</xmp>z", "p(b('x')) b(xmp('y') 'z')")
}

// P14.6: option, rp, rt, and names without a rule.
func TestBodyOthers(t *testing.T) {
	cases{
		{"<option a=1>x<option>y", "option a=1('x') option('y')"},
		{"<option><b>x<option>y", "option(b('x' option('y')))"},
		{"<option><optgroup>x<option>y", "option(optgroup('x' option('y')))"},
		{"<p><b></p><option>y", "p(b) b(option('y'))"},
		{"<p>x<option>y", "p('x' option('y'))"},
		{"<foo a=1>x<foo>y", "foo a=1('x' foo('y'))"},
		{"<p><b></p><foo>y", "p(b) b(foo('y'))"},
		{"<p>x<span>y<select>z", "p('x' span('y' select('z')))"},
	}.run(t)
	for _, name := range words("rp rt") {
		cases{
			{"<ruby>x<" + name + " a=1>y<rt>z", "ruby('x' " + name + " a=1('y') rt('z'))"},
			{"<ruby>x<p><" + name + ">y", "ruby('x' p " + name + "('y'))"},
			{"<ruby>x<span><p><" + name + ">y", "ruby('x' span(p " + name + "('y')))"},
			{"<ruby><option><li><dd><" + name + ">y", "ruby(option(li(dd)) " + name + "('y'))"},
			{"<ruby><object><p>x<" + name + ">y", "ruby(object(p('x' " + name + "('y'))))"},
			{"<ruby><button><p>x<" + name + ">y", "ruby(button(p('x') " + name + "('y')))"},
			{"<ruby><ul><li>x<" + name + ">y", "ruby(ul(li('x') " + name + "('y')))"},
			{"<rp>x<" + name + ">y", "rp('x' " + name + "('y'))"},
			{"<p>x<" + name + ">y", "p('x' " + name + "('y'))"},
			// No formatting element is opened again.
			{"<p><b></p><" + name + "><!--c-->", "p(b) " + name + "(!c!)"},
		}.run(t)
	}
}

// P14.6: the end of the body, and of html.
func TestBodyEnds(t *testing.T) {
	for _, name := range words("body html") {
		wholes{
			{"<p>x</" + name + "><!--c-->", "(html(head body(p('x')) !c!))"},
			{"<p>x</" + name + ">y", "(html(head body(p('xy'))))"},
			// Not in scope: nothing.
			{"<object>x</" + name + "><!--c-->", "(html(head body(object('x' !c!))))"},
			{"<marquee>x</" + name + "><!--c-->", "(html(head body(marquee('x' !c!))))"},
			{"<table>x</" + name + "><!--c-->", "(html(head body('x' table(!c!))))"},
			// A border of scope 2 or 3 is none.
			{"<ul><button>x</" + name + "><!--c-->", "(html(head body(ul(button('x'))) !c!))"},
		}.run(t)
	}
}

// P14.6: the end tags of blocks, button and listing.
func TestBodyEndsOfBlocks(t *testing.T) {
	for _, name := range append(named(6), "button", "listing") {
		cases{
			{"<" + name + ">x</" + name + ">y", name + "('x') 'y'"},
			{"<" + name + "><p>x</" + name + ">y", name + "(p('x')) 'y'"},
			{"<" + name + "><option><rp><rt>x</" + name + ">y", name + "(option(rp(rt('x')))) 'y'"},
			{"<" + name + "><span><foo><li>x</" + name + ">y", name + "(span(foo(li('x')))) 'y'"},
			{"<" + name + "><b>x</" + name + ">y", name + "(b('x')) b('y')"},
			{"<" + name + "><object>x</" + name + ">y", name + "(object('xy'))"},
			{"<" + name + "><table><td>x</" + name + ">y", name + "(table(tbody(tr(td('xy')))))"},
			{"<" + name + "><table></" + name + ">y", name + "('y' table)"},
			{"x</" + name + ">y", "'xy'"},
			{"<p>x</" + name + ">y", "p('xy')"},
		}.run(t)
	}
}

// P14.6: the end tag of a p: one that is not in scope is there all the same.
func TestBodyEndsOfP(t *testing.T) {
	cases{
		{"<p>x</p>y", "p('x') 'y'"},
		{"<body></p>y", "p 'y'"},
		{"<p>x</p></p>y", "p('x') p 'y'"},
		{"<p><button>x</p>y", "p(button('x' p 'y'))"},
		{"<p><object>x</p>y", "p(object('x' p 'y'))"},
		{"<p><span>x</p>y", "p(span('x')) 'y'"},
		{"<p><b>x</p>y", "p(b('x')) b('y')"},
		{"<b>x</p>y", "b('x' p 'y')"},
		{"<p><div>x</p>y", "p div('x' p 'y')"},
		{"<p><option>x</p>y", "p(option('x')) 'y'"},
		{"<table></p>x", "p 'x' table"},
		{"<p><b></p></p>", "p(b) p"},
	}.run(t)
}

// P14.6: the end tags of items.
func TestBodyEndsOfItems(t *testing.T) {
	for _, name := range words("li dd dt") {
		cases{
			{"<" + name + ">x</" + name + ">y", name + "('x') 'y'"},
			{"<" + name + "><p>x</" + name + ">y", name + "(p('x')) 'y'"},
			{"<" + name + "><div><span>x</" + name + ">y", name + "(div(span('x'))) 'y'"},
			{"<" + name + "><b>x</" + name + ">y", name + "(b('x')) b('y')"},
			{"<" + name + "><object>x</" + name + ">y", name + "(object('xy'))"},
			{"<" + name + "><table><td>x</" + name + ">y", name + "(table(tbody(tr(td('xy')))))"},
			{"x</" + name + ">y", "'xy'"},
			{"<p>x</" + name + ">y", "p('xy')"},
		}.run(t)
	}
	cases{
		// ul and ol are borders for an li, not for the others.
		{"<li><ul>x</li>y", "li(ul('xy'))"},
		{"<li><ol>x</li>y", "li(ol('xy'))"},
		{"<li><menu>x</li>y", "li(menu('x')) 'y'"},
		{"<dd><ul>x</dd>y", "dd(ul('x')) 'y'"},
		{"<dt><ol>x</dt>y", "dt(ol('x')) 'y'"},
		{"<dd>x</dt>y", "dd('xy')"},
		{"<dt>x</dd>y", "dt('xy')"},
		{"<dd><section><dt>x</dd>y", "dd(section(dt('x'))) 'y'"},
		// A li that is implied is not ended by another name.
		{"<li><option>x</li>y", "li(option('x')) 'y'"},
	}.run(t)
}

// P14.6: the end tag of a heading ends any heading.
func TestBodyEndsOfHeadings(t *testing.T) {
	for _, name := range named(5) {
		for _, other := range named(5) {
			wantBody(t, "<"+name+"><p>x</"+other+">y", name+"(p('x')) 'y'")
		}
		cases{
			{"<" + name + "><b><span>x</h3>y", name + "(b(span('x'))) b('y')"},
			{"<" + name + "><object>x</" + name + ">y", name + "(object('xy'))"},
			{"<" + name + "><div><h2>x</" + name + ">y", name + "(div(h2('x') 'y'))"},
			{"x</" + name + ">y", "'xy'"},
			{"<p>x</" + name + ">y", "p('xy')"},
		}.run(t)
	}
}

// P14.6: the end tag br.
func TestBodyEndBr(t *testing.T) {
	cases{
		{"<p>x</br>y", "p('x' br 'y')"},
		{"<p><b></p></br>", "p(b) b(br)"},
		{"<table></br>x", "br 'x' table"},
		{"<table><td></br>x", "table(tbody(tr(td(br 'x'))))"},
	}.run(t)
}
