package plain_test

import (
	"strings"
	"testing"

	"topiary/api"
)

// between are ways from one element to another that is in it, at some depth: some through a table, a list, a button.
var between = words("- b span x-y - b_i_u label_b")

// throughBlocks are ways that can't be in a p, but in a heading, an a or a button.
var throughBlocks = words("div div_section table_caption table_caption_b table_tbody_tr_td table_thead_tr_th_div table_tbody_tr_td_table_tfoot_tr_td ul ul_li ol_li_menu_li dl_dt dl_dd_i pre listing address form center")

// inside is a page in which there is an element of a name, and in that, on some way, a node.
func inside(outer, way string, x api.Tree) api.Tree {
	if way == "-" {
		return page(el(outer, x))
	}
	return page(el(outer, text("a"), chain(strings.ReplaceAll(way, "_", " "), comment(""), x), text("b")))
}

// item is an element of a name, in a list if it is an item: nothing but what is around it bars it.
func item(name string) api.Tree {
	switch name {
	case "li":
		return el("ul", el("li"))
	case "dd", "dt":
		return el("dl", el(name))
	}
	return el(name)
}

// P17.2, 5: in a p, in all of its depth, there is no block, heading, p, listing, hr, table, and no item of a list; all else may be.
func TestInP(t *testing.T) {
	for _, name := range names {
		if !kidOfBody(name) && !inList(name, words("li dd dt")) {
			continue
		}
		barred := inList(name, endP)
		for _, way := range between {
			want(t, inside("p", way, el(name)), !barred)
			want(t, page(el("div", el("p"), inside("p", way, el(name)).Kids[0].Kids[1].Kids[0])), !barred)
		}
		for _, way := range words("button button_b b_button_i a_button") {
			if name != "button" {
				want(t, inside("p", way, el(name)), !barred && !(name == "a" && way == "a_button"))
			}
		}
		for _, way := range words("h1 h2 ul_li dl_dd table_tbody_tr_td table_caption li dd p") {
			wantNot(t, inside("p", way, item(name)), inside("p", "b_"+way, item(name)))
		}
	}
	// Behind a p, and around it, they may be.
	for _, name := range endP {
		wantPlain(t, page(el("p", text("a")), item(name), el("p")), page(el("div", item(name), el("p", el("b")), item(name))))
		if !inList(name, words("li dd dt hr table p")) {
			wantPlain(t, page(el(name, el("p"))), page(el(name, el("b", el("p", text("a"))))))
		}
	}
	wantPlain(t, page(row(el("td", el("p", text("a")), el("p")))), page(chain("ul li p")), page(chain("table caption p")), page(chain("button p")), page(chain("h1 p b")), page(chain("a p")))
	// In a table's cell, a caption, a list, it is as elsewhere.
	wantNot(t, page(row(el("td", el("p", el("div"))))), page(chain("ul li p ul")), page(chain("table caption p hr")), page(chain("dl dd p b p")), page(chain("button p h1")), page(chain("div div p b i table")))
}

// P17.2, 5: in a heading no heading, in an a no a, in a button no button, in all of their depth.
func TestNoneInItsLike(t *testing.T) {
	like := func(outer, name string) bool {
		return outer == name || inList(outer, headings) && inList(name, headings)
	}
	for _, outer := range append(words("a button div b i span pre listing td x-y form center label"), headings...) {
		for _, name := range append(words("a button p br hr div b i ul table form span listing pre u textarea iframe summary"), headings...) {
			barred := like(outer, name) && inList(outer, headings, words("a button"))
			for _, way := range append(between, throughBlocks...) {
				if outer == "td" {
					wantPlain(t, page(row(el("td", inside("div", way, el(name)).Kids[0].Kids[1].Kids...))))
					continue
				}
				want(t, inside(outer, way, el(name)), !barred)
				for _, other := range words("h1 a button") {
					if !like(other, name) && !like(other, outer) {
						want(t, inside(outer, other+"_"+strings.ReplaceAll(way, "-", "b"), el(name)), !barred)
					} else if like(other, name) {
						wantNot(t, inside(outer, other+"_"+strings.ReplaceAll(way, "-", "b"), el(name)))
					}
				}
			}
		}
	}
	// Next to one another they may be.
	wantPlain(t, page(el("a"), el("a", text("a")), el("a")), page(el("h1"), el("h2"), el("h1")), page(el("button"), el("button")), page(el("div", el("h1", el("a", el("button"))), el("h1", el("a", el("button"))))))
	wantPlain(t, page(row(el("td", el("a")), el("td", el("a")))), page(el("ul", el("li", el("h1")), el("li", el("h2")))), page(chain("a button h1 p")), page(chain("button a h6")), page(chain("h3 button a p")))
	wantNot(t, page(chain("a button h1 p a")), page(chain("button a h1 button")), page(chain("h3 button a p h4")))
}

// P17.2, 5: what is around an element counts, not what was ahead of it, in all depths.
func TestAroundAlone(t *testing.T) {
	wantPlain(t,
		page(el("div", el("b", el("p")), el("div"))),
		page(el("div", el("a", el("b")), el("i", el("a")))),
		page(el("ul", el("li", el("p")), el("li", el("div")))),
		page(el("span", el("button"), el("button", el("a")), el("a", el("button")))),
		page(el("section", el("h1", el("p", el("button"))), el("p", el("a")), el("h2"))),
		page(row(el("td", el("h1"), el("p")), el("th", el("h1"), el("div", el("p"))))),
	)
}
