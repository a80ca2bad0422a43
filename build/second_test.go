package build_test

import (
	"slices"
	"strconv"
	"strings"

	"topiary/api"
	"topiary/stack"
	"topiary/tree"
)

// The chapter's tables, row by row: the mode (that of the row above, if there is none), what comes, what is done. @ is the piece's own name.
const rows = `
start | C | put at root
 | D | put at root; mode html
 | blank |
 | else | mode html; again
html | C | put at root
 | D; blank |
 | S html | insert; mode ahead
 | E but head body html br |
 | else | insert html; mode ahead; again
ahead | C | put
 | D; blank |
 | S html | as body
 | S head | insert; keep head; mode head
 | E but head body html br |
 | else | insert head; keep head; mode head; again
head | blank; C | put
 | D; S head |
 | S html | as body
 | S base link meta | leave
 | S title style script noframes | insert
 | E head | pop; mode behind
 | E title style script noframes | if current @; pop
 | E but body html br |
 | else | pop to head; mode behind; again
behind | blank; C | put
 | D; S head |
 | S html | as body
 | S body | insert; mode body
 | S sort 8 | open head; as head; shut head
 | E but body html br |
 | else | insert body; mode body; again
after | blank | as body
 | C | put at html
 | D; E html |
 | else | mode body; again
raw | T | put
 | E @current | pop
 | C; D; E |
 | else | pop; again
body | T | rebuild; put
 | C | put
 | D; end |
 | S html | add to html
 | S body | add to body
 | S sort 8 | as head
 | S frameset caption col colgroup frame head tbody td tfoot th thead tr |
 | S sort 6; S p listing plaintext | close p; insert
 | S sort 5 | close p; end heading; insert
 | S li | end item li; close p; insert
 | S dd dt | end item dd dt; close p; insert
 | S button | end button; rebuild; insert
 | S a | end link; rebuild; insert; push
 | S nobr | rebuild; end nobr; insert; push
 | S sort 3 | rebuild; insert; push
 | S sort 7 | rebuild; insert; mark
 | S table | close p; insert; mode table
 | S area br embed img input wbr | rebuild; leave
 | S image | rebuild; leave img
 | S param source track | leave
 | S hr | close p; leave
 | S textarea iframe noembed | insert
 | S xmp | close p; rebuild; insert
 | S option | end option; rebuild; insert
 | S rp rt | end ruby; insert
 | S | rebuild; insert
 | E body | if in 1 body; mode after
 | E html | if in 1 body; mode after; again
 | E sort 6; E button listing | if in 1 @; imply; pop to @
 | E p | make p; close p
 | E li | if in 2 li; imply li; pop to li
 | E dd dt | if in 1 @; imply @; pop to @
 | E sort 5 | if in 1 h1 h2 h3 h4 h5 h6; imply; pop to h1 h2 h3 h4 h5 h6
 | E sort 3 | adopt
 | E sort 7 | if in 1 @; imply; pop to @; clear
 | E br | rebuild; leave new br
 | E | other end
table | blank; C | put
 | D; end |
 | S caption | pop up to table html; mark; insert; mode caption
 | S colgroup | pop up to table html; insert; mode columns
 | S col | pop up to table html; insert colgroup; mode columns; again
 | S tbody tfoot thead | pop up to table html; insert; mode tbody
 | S td th tr | pop up to table html; insert tbody; mode tbody; again
 | S table | if in 4 table; pop to table; raise; again
 | E table | if in 4 table; pop to table; raise
 | E body caption col colgroup html tbody td tfoot th thead tr |
 | S style script | as head
 | else | foster; as body; no foster
caption | E caption | if in 4 caption; imply; pop to caption; clear; mode table
 | S caption col colgroup tbody td tfoot th thead tr; E table | if in 4 caption; imply; pop to caption; clear; mode table; again
 | E body col colgroup html tbody td tfoot th thead tr |
 | else | as body
columns | blank; C | put
 | D; E col; end |
 | S col | leave
 | E colgroup | if current colgroup; pop; mode table
 | else | if current colgroup; pop; mode table; again
tbody | S tr | pop up to tbody tfoot thead html; insert; mode row
 | S td th | pop up to tbody tfoot thead html; insert tr; mode row; again
 | E tbody tfoot thead | if in 4 @; pop up to tbody tfoot thead; pop; mode table
 | S caption col colgroup tbody tfoot thead; E table | if in 4 tbody tfoot thead; pop up to tbody tfoot thead; pop; mode table; again
 | E body caption col colgroup html td th tr |
 | else | as table
row | S td th | pop up to tr html; insert; mark; mode cell
 | E tr | if in 4 tr; pop up to tr; pop; mode tbody
 | S caption col colgroup tbody tfoot thead tr; E table | if in 4 tr; pop up to tr; pop; mode tbody; again
 | E tbody tfoot thead | if in 4 @; if in 4 tr; pop up to tr; pop; mode tbody; again
 | E body caption col colgroup html td th |
 | else | as table
cell | E td th | if in 4 @; imply; pop to @; clear; mode row
 | S caption col colgroup tbody td tfoot th thead tr | if in 4 td th; imply; pop to td th; clear; mode row; again
 | E body caption col colgroup html |
 | E table tbody tfoot thead tr | if in 4 @; imply; pop to td th; clear; mode row; again
 | else | as body
`

// what is one sort of pieces that a row is for: the word of its Kind, and the names, the sort or the others that it is about.
type what struct {
	kind  string
	form  string // "sort", "but", "@current", or nothing
	sort  int
	names []string
}

// step is one step of what is done: all of it, and its words.
type step struct {
	all   string
	words []string
}

// row is one row of a table.
type row struct {
	id    int
	mode  string
	whats []what
	steps []step
}

// rules are the rows of each mode; rowCount is how many there are.
var rules, rowCount = readRules()

func readRules() (map[string][]row, int) {
	rules := map[string][]row{}
	mode, count := "", 0
	for line := range strings.SplitSeq(strings.TrimSpace(rows), "\n") {
		parts := strings.Split(line, "|")
		if m := strings.TrimSpace(parts[0]); m != "" {
			mode = m
		}
		r := row{id: count, mode: mode}
		count++
		for _, p := range cutParts(parts[1]) {
			r.whats = append(r.whats, readWhat(p))
		}
		for _, p := range cutParts(parts[2]) {
			r.steps = append(r.steps, step{p, strings.Fields(p)})
		}
		rules[mode] = append(rules[mode], r)
	}
	return rules, count
}

func readWhat(s string) what {
	words := strings.Fields(s)
	w := what{kind: words[0], names: words[1:]}
	if len(w.names) > 0 && slices.Contains([]string{"sort", "but", "@current"}, w.names[0]) {
		w.form, w.names = w.names[0], w.names[1:]
	}
	if w.form == "sort" {
		w.sort, _ = strconv.Atoi(w.names[0])
	}
	return w
}

func cutParts(s string) []string {
	var l []string
	for part := range strings.SplitSeq(s, ";") {
		if part = strings.TrimSpace(part); part != "" {
			l = append(l, part)
		}
	}
	return l
}

// second is a second reading of the chapter: the tables are read as they stand, nodes are numbers, and the active list is the numbers of its elements, 0 for a marker.
type second struct {
	nodes  []api.Tree // without Kids
	parent []int
	kids   [][]int
	open   []int
	active []int
	mode   string
	foster bool
	head   int
	raised []string // the modes that were raised
	taken  []int    // the rows that were taken
}

func newSecond() *second {
	s := &second{mode: "start"}
	s.make(api.Tree{Kind: api.Root})
	return s
}

// buildSecond is Build by the second reading, and what it has been through.
func buildSecond(l []api.Token) (api.Tree, api.Errno, *second) {
	s := newSecond()
	var kept []api.Token
	for _, t := range append(slices.Clone(l), api.Token{Kind: api.TokEnd0}) {
		bad := t.Kind < 1 || t.Kind > 6 || t.Kind == api.TokText && t.Text == "" || t.Kind == api.TokStart && !tree.Name(t.Name)
		if !bad {
			kept = append(kept, t)
		}
		if t.Kind == api.TokEnd0 {
			break
		}
	}
	for i, t := range kept {
		if i > 0 && t.Kind == api.TokText && t.Text[0] == 10 && kept[i-1].Kind == api.TokStart && slices.Contains([]string{"textarea", "pre", "listing"}, kept[i-1].Name) {
			t.Text = t.Text[1:]
			if t.Text == "" {
				continue
			}
		}
		for s.by(s.modeNow(), t) {
		}
	}
	if len(s.nodes) > api.MaxNodes {
		return api.Tree{}, api.ErrBig, s
	}
	out := s.tree(0)
	if !tree.Check(out) {
		return api.Tree{}, api.ErrBig, s
	}
	return out, api.OK, s
}

func (s *second) tree(n int) api.Tree {
	t := s.nodes[n]
	for _, k := range s.kids[n] {
		t.Kids = append(t.Kids, s.tree(k))
	}
	return t
}

const rawNames = " title textarea style script xmp iframe noembed noframes "

func has(list, name string) bool { return strings.Contains(list, " "+name+" ") }

func (s *second) modeNow() string {
	if name := s.name(s.current()); name != "" && has(rawNames, name) {
		return "raw"
	}
	return s.mode
}

// by takes a piece by a mode's rows; it tells whether it is to be taken again.
func (s *second) by(mode string, t api.Token) bool {
	for _, r := range rules[mode] {
		for _, w := range r.whats {
			if s.fits(w, t) {
				s.taken = append(s.taken, r.id)
				return s.run(r.steps, t)
			}
		}
	}
	return false
}

func (s *second) fits(w what, t api.Token) bool {
	switch w.kind {
	case "else":
		return true
	case "end":
		return t.Kind == api.TokEnd0
	case "C":
		return t.Kind == api.TokComment
	case "D":
		return t.Kind == api.TokDoctype
	case "T":
		return t.Kind == api.TokText
	case "blank":
		return t.Kind == api.TokText && strings.Trim(t.Text, "\t\n\f ") == ""
	case "S":
		return t.Kind == api.TokStart && s.named(w, t.Name)
	}
	return t.Kind == api.TokEnd && s.named(w, t.Name)
}

func (s *second) named(w what, name string) bool {
	switch w.form {
	case "sort":
		return stack.Is(name, w.sort)
	case "but":
		return !slices.Contains(w.names, name)
	case "@current":
		return name == s.name(s.current())
	}
	return len(w.names) == 0 || slices.Contains(w.names, name)
}

// run does what a row says, step by step, up to an if that does not hold.
func (s *second) run(steps []step, t api.Token) (again bool) {
	for _, x := range steps {
		words := slices.Clone(x.words)
		for i := range words {
			if words[i] == "@" {
				words[i] = t.Name
			}
		}
		switch words[0] {
		case "again":
			return true
		case "as":
			again = s.by(words[1], t)
		case "if":
			if !s.holds(words[1], words[2:]) {
				return again
			}
		default:
			s.do(x.all, words, t)
		}
	}
	return again
}

func (s *second) holds(word string, args []string) bool {
	if word == "current" {
		return slices.Contains(args, s.name(s.current()))
	}
	scope, _ := strconv.Atoi(args[0])
	return slices.ContainsFunc(args[1:], func(name string) bool { return stack.In(s.names(), name, scope) })
}

func (s *second) do(step string, words []string, t api.Token) {
	own := api.Tree{Kind: api.Element, Name: t.Name}
	for _, a := range t.Attrs {
		if tree.Name(a.Name) {
			own.Attrs = append(own.Attrs, a)
		}
	}
	switch step {
	case "put at root":
		s.hang(s.makePiece(t), 0, len(s.kids[0]))
	case "put at html":
		s.hang(s.makePiece(t), s.open[0], len(s.kids[s.open[0]]))
	case "put":
		s.put(t)
	case "insert":
		s.insert(own)
	case "leave":
		s.hangHere(s.make(own))
	case "leave img":
		own.Name = "img"
		s.hangHere(s.make(own))
	case "leave new br":
		s.hangHere(s.make(api.Tree{Kind: api.Element, Name: "br"}))
	case "keep head":
		s.head = s.current()
	case "open head":
		s.open = append(s.open, s.head)
	case "shut head":
		s.shut(s.head)
	case "add to html":
		s.addTo(0, own.Attrs)
	case "add to body":
		if len(s.open) > 1 && s.name(s.open[1]) == "body" {
			s.addTo(1, own.Attrs)
		}
	case "pop":
		s.pop(1)
	case "close p":
		s.closeP()
	case "rebuild":
		s.rebuild()
	case "push":
		s.push(s.current())
	case "mark":
		s.active = append(s.active, 0)
	case "clear":
		s.active = s.active[:max(0, s.lastMarker())]
	case "raise":
		s.raise()
	case "foster", "no foster":
		s.foster = step == "foster"
	case "adopt":
		s.adopt(t.Name)
	case "other end":
		s.otherEnd(t.Name)
	default:
		s.doWith(words, own)
	}
}

func (s *second) doWith(words []string, own api.Tree) {
	switch words[0] {
	case "mode":
		s.mode = words[1]
	case "insert":
		s.insert(api.Tree{Kind: api.Element, Name: words[1]})
	case "imply":
		s.pop(stack.Implied(s.names(), strings.Join(words[1:], "")))
	case "make":
		if !stack.In(s.names(), "p", 3) {
			s.insert(api.Tree{Kind: api.Element, Name: "p"})
		}
	case "pop":
		if words[1] == "up" {
			s.pop(max(0, stack.Until(s.names(), words[3:]...)-1))
			return
		}
		s.pop(stack.Until(s.names(), words[2:]...))
	case "end":
		s.endAhead(words[1], words[2:])
	default:
		panic("no such step: " + strings.Join(words, " "))
	}
}

// endAhead ends what ends ahead of some start tags.
func (s *second) endAhead(word string, names []string) {
	open := s.names()
	switch word {
	case "heading":
		if stack.Is(s.name(s.current()), 5) {
			s.pop(1)
		}
	case "option":
		if s.name(s.current()) == "option" {
			s.pop(1)
		}
	case "ruby":
		if stack.In(open, "ruby", 1) {
			s.pop(stack.Implied(open, ""))
		}
	case "button":
		if stack.In(open, "button", 1) {
			s.pop(stack.Implied(open, ""))
			s.pop(stack.Until(s.names(), "button"))
		}
	case "nobr":
		if stack.In(open, "nobr", 1) {
			s.adopt("nobr")
			s.rebuild()
		}
	case "link":
		if a := s.last("a"); a != 0 {
			s.adopt("a")
			s.remove(a)
			s.shut(a)
		}
	case "item":
		for i := len(open) - 1; i >= 0; i-- {
			if slices.Contains(names, open[i]) {
				s.pop(stack.Implied(open, open[i]))
				s.pop(stack.Until(s.names(), open[i]))
				return
			}
			if stack.Is(open[i], 2) && !has(" address div p ", open[i]) {
				return
			}
		}
	}
}

func (s *second) name(n int) string { return s.nodes[n].Name }

func (s *second) names() []string {
	var l []string
	for _, n := range s.open {
		l = append(l, s.name(n))
	}
	return l
}

func (s *second) current() int {
	if len(s.open) == 0 {
		return 0
	}
	return s.open[len(s.open)-1]
}

func (s *second) make(t api.Tree) int {
	s.nodes = append(s.nodes, t)
	s.parent = append(s.parent, -1)
	s.kids = append(s.kids, nil)
	return len(s.nodes) - 1
}

func (s *second) makePiece(t api.Token) int {
	switch t.Kind {
	case api.TokDoctype:
		return s.make(api.Tree{Kind: api.Doctype, Name: t.Name})
	case api.TokComment:
		return s.make(api.Tree{Kind: api.Comment, Text: t.Text})
	}
	return s.make(api.Tree{Kind: api.Text, Text: t.Text})
}

// hang makes a node that stands nowhere the kid at of another one.
func (s *second) hang(n, parent, at int) {
	s.kids[parent] = slices.Insert(s.kids[parent], at, n)
	s.parent[n] = parent
}

func (s *second) unhang(n int) {
	if p := s.parent[n]; p >= 0 {
		at := slices.Index(s.kids[p], n)
		s.kids[p] = append(append([]int(nil), s.kids[p][:at]...), s.kids[p][at+1:]...)
		s.parent[n] = -1
	}
}

const tableParts = " table tbody tfoot thead tr "

// here is the parent and the place where something is put.
func (s *second) here() (int, int) {
	c := s.current()
	if s.foster && has(tableParts, s.name(c)) {
		return s.fosterHere()
	}
	return c, len(s.kids[c])
}

func (s *second) fosterHere() (int, int) {
	for i := len(s.open) - 1; i >= 0; i-- {
		if n := s.open[i]; s.name(n) == "table" {
			return s.parent[n], slices.Index(s.kids[s.parent[n]], n)
		}
	}
	return s.open[0], len(s.kids[s.open[0]])
}

func (s *second) hangHere(n int) {
	parent, at := s.here()
	s.hang(n, parent, at)
}

func (s *second) put(t api.Token) {
	parent, at := s.here()
	if t.Kind != api.TokText {
		s.hang(s.makePiece(t), parent, at)
		return
	}
	if parent == 0 {
		return
	}
	if at > 0 && s.nodes[s.kids[parent][at-1]].Kind == api.Text {
		s.nodes[s.kids[parent][at-1]].Text += t.Text
		return
	}
	s.hang(s.makePiece(t), parent, at)
}

func (s *second) insert(t api.Tree) int {
	n := s.make(t)
	s.hangHere(n)
	s.open = append(s.open, n)
	return n
}

func (s *second) pop(n int) { s.open = slices.Clone(s.open[:len(s.open)-n]) }

func (s *second) shut(n int) {
	if i := slices.Index(s.open, n); i >= 0 {
		s.open = slices.Delete(s.open, i, i+1)
	}
}

func (s *second) addTo(i int, l []api.Attr) {
	n := &s.nodes[s.open[i]]
	for _, a := range l {
		if _, ok := tree.Attr(*n, a.Name); !ok {
			at := 0
			for at < len(n.Attrs) && n.Attrs[at].Name < a.Name {
				at++
			}
			n.Attrs = slices.Insert(slices.Clone(n.Attrs), at, a)
		}
	}
}

func (s *second) closeP() {
	if stack.In(s.names(), "p", 3) {
		s.pop(stack.Implied(s.names(), "p"))
		s.pop(stack.Until(s.names(), "p"))
	}
}

func (s *second) lastMarker() int {
	for i := len(s.active) - 1; i >= 0; i-- {
		if s.active[i] == 0 {
			return i
		}
	}
	return -1
}

func (s *second) last(name string) int {
	for i := len(s.active) - 1; i > s.lastMarker(); i-- {
		if s.name(s.active[i]) == name {
			return s.active[i]
		}
	}
	return 0
}

func (s *second) remove(n int) {
	if i := slices.Index(s.active, n); i >= 0 {
		s.active = slices.Delete(s.active, i, i+1)
	}
}

func (s *second) push(n int) {
	var alike []int
	for i := s.lastMarker() + 1; i < len(s.active); i++ {
		if x := s.nodes[s.active[i]]; x.Name == s.name(n) && slices.Equal(x.Attrs, s.nodes[n].Attrs) {
			alike = append(alike, s.active[i])
		}
	}
	if len(alike) >= 3 {
		s.remove(alike[0])
	}
	s.active = append(s.active, n)
}

func (s *second) copyOf(n int) int {
	return s.make(api.Tree{Kind: api.Element, Name: s.name(n), Attrs: slices.Clone(s.nodes[n].Attrs)})
}

func (s *second) rebuild() {
	from := len(s.active)
	for from > 0 && s.active[from-1] != 0 && !slices.Contains(s.open, s.active[from-1]) {
		from--
	}
	for ; from < len(s.active); from++ {
		n := s.copyOf(s.active[from])
		s.hangHere(n)
		s.open = append(s.open, n)
		s.active[from] = n
	}
}

func (s *second) raise() {
	modes := map[string]string{
		"td": "cell", "th": "cell", "tr": "row", "tbody": "tbody", "thead": "tbody", "tfoot": "tbody", "caption": "caption",
		"colgroup": "columns", "table": "table", "head": "head", "body": "body", "html": "behind",
	}
	s.mode = "body"
	for _, n := range slices.Backward(s.open) {
		if m := modes[s.name(n)]; m != "" {
			s.mode = m
			break
		}
	}
	s.raised = append(s.raised, s.mode)
}

func (s *second) otherEnd(name string) {
	open := s.names()
	for i := len(open) - 1; i >= 0; i-- {
		if open[i] == name {
			// What is implied lies further in, so it goes with the element.
			s.pop(len(open) - i)
			return
		}
		if stack.Is(open[i], 2) {
			return
		}
	}
}

func (s *second) adopt(name string) {
	if c := s.current(); s.name(c) == name && !slices.Contains(s.active, c) {
		s.pop(1)
		return
	}
	for range 8 {
		e := s.last(name)
		if e == 0 {
			s.otherEnd(name)
			return
		}
		at := slices.Index(s.open, e)
		if at < 0 {
			s.remove(e)
			return
		}
		f := 0
		for _, n := range s.open[at+1:] {
			if has(" html table applet caption td th marquee object ", s.name(n)) {
				return
			}
			if f == 0 && stack.Is(s.name(n), 2) {
				f = n
			}
		}
		if f == 0 {
			s.pop(len(s.open) - at)
			s.remove(e)
			return
		}
		s.cut(e, f, s.open[at-1])
	}
}

// cut are the four steps of P14.3.
func (s *second) cut(e, f, c int) {
	m := slices.Index(s.active, e)
	was := slices.Clone(s.open)
	at, last := slices.Index(was, f), f
	for n := 1; was[at-n] != e; n++ {
		node := was[at-n]
		p := slices.Index(s.active, node)
		if n > 3 && p >= 0 {
			s.remove(node)
			if p < m {
				m--
			}
			p = -1
		}
		if p < 0 {
			s.shut(node)
			continue
		}
		fresh := s.copyOf(node)
		s.open[slices.Index(s.open, node)] = fresh
		s.active[p] = fresh
		if last == f {
			m = p + 1
		}
		s.unhang(last)
		s.hang(last, fresh, len(s.kids[fresh]))
		last = fresh
	}
	s.unhang(last)
	parent, place := c, len(s.kids[c])
	if has(tableParts, s.name(c)) {
		parent, place = s.fosterHere()
	}
	s.hang(last, parent, place)
	fresh := s.copyOf(e)
	for _, k := range slices.Clone(s.kids[f]) {
		s.unhang(k)
		s.hang(k, fresh, len(s.kids[fresh]))
	}
	s.hang(fresh, f, 0)
	if slices.Index(s.active, e) < m {
		m--
	}
	s.remove(e)
	s.active = slices.Insert(s.active, m, fresh)
	s.shut(e)
	s.open = slices.Insert(s.open, slices.Index(s.open, f)+1, fresh)
}
