package scan_test

import (
	"slices"
	"strconv"
	"strings"
	"testing"

	"topiary/api"
	"topiary/scan"
)

// attrs are attributes of these names, whose values tell their places.
func attrs(names ...string) []api.Attr {
	var l []api.Attr
	for i, name := range names {
		l = append(l, api.Attr{Name: name, Value: strconv.Itoa(i)})
	}
	return l
}

// secondSort is a second reading of the chapter's words: again and again the least name that is left, and the first one that has it.
func secondSort(l []api.Attr) []api.Attr {
	var out []api.Attr
	for {
		least := -1
		for i, a := range l {
			if len(out) > 0 && a.Name <= out[len(out)-1].Name {
				continue
			}
			if least < 0 || a.Name < l[least].Name {
				least = i
			}
		}
		if least < 0 {
			return out
		}
		out = append(out, l[least])
	}
}

// few are attributes that may be told.
func few(l []api.Attr) []api.Attr { return l[:min(len(l), 20)] }

// wantSort holds Sort against its answer, and what is handed in, with its spare room, against what it was.
func wantSort(t *testing.T, l, want []api.Attr) {
	t.Helper()
	was := slices.Clone(l[:cap(l)])
	if got := scan.Sort(l); !slices.Equal(got, want) {
		t.Errorf("Sort(%q) = %q, want %q", few(l), few(got), few(want))
	}
	if !slices.Equal(l[:cap(l)], was) {
		t.Errorf("Sort changed what was handed in: %q to %q", few(was), few(l))
	}
}

// P11.1: no attributes, one, some.
func TestSort(t *testing.T) {
	at := func(name string, i int) api.Attr { return api.Attr{Name: name, Value: strconv.Itoa(i)} }
	for _, x := range []struct {
		l, want []api.Attr
	}{
		{nil, nil},
		{[]api.Attr{}, nil},
		{make([]api.Attr, 0, 3), nil},
		{attrs("a"), attrs("a")},
		{attrs(""), attrs("")},
		{attrs("a", "b"), attrs("a", "b")},
		{attrs("b", "a"), []api.Attr{at("a", 1), at("b", 0)}},
		{attrs("a", "a"), attrs("a")},
		{attrs("a", "a", "a"), attrs("a")},
		{attrs("b", "a", "b", "a"), []api.Attr{at("a", 1), at("b", 0)}},
		{attrs("b", "a", "b", "", "a", ""), []api.Attr{at("", 3), at("a", 1), at("b", 0)}},
		{attrs("c", "b", "a", "a", "b", "c"), []api.Attr{at("a", 2), at("b", 1), at("c", 0)}},
		// By bytes, as they are: great letters ahead of small ones, a beginning ahead of what goes on.
		{attrs("a", "B", "A", "b"), []api.Attr{at("A", 2), at("B", 1), at("a", 0), at("b", 3)}},
		{attrs("aa", "a", "a\x00", "ab", "b"), []api.Attr{at("a", 1), at("a\x00", 2), at("aa", 0), at("ab", 3), at("b", 4)}},
		{attrs("\xff", "é", "z", "\U0001f333", "\ufffd", "\x00", "\x80"), []api.Attr{at("\x00", 5), at("z", 2), at("\x80", 6), at("é", 1), at("\ufffd", 4), at("\U0001f333", 3), at("\xff", 0)}},
		{attrs("a10", "a9", "a1"), []api.Attr{at("a1", 2), at("a10", 0), at("a9", 1)}},
	} {
		wantSort(t, x.l, x.want)
	}
}

// P11.1: of one Name the first one, whatever its Value.
func TestSortFirst(t *testing.T) {
	for _, values := range [][2]string{{"1", "2"}, {"2", "1"}, {"", "x"}, {"x", ""}, {"x", "x"}} {
		one, two := api.Attr{Name: "n", Value: values[0]}, api.Attr{Name: "n", Value: values[1]}
		wantSort(t, []api.Attr{one, two}, []api.Attr{one})
		wantSort(t, []api.Attr{{Name: "o"}, one, {Name: "m"}, two}, []api.Attr{{Name: "m"}, one, {Name: "o"}})
	}
}

// P11.1: every order of seven attributes, of which some have one Name.
func TestSortEveryOrder(t *testing.T) {
	for _, names := range [][]string{
		{"a", "b", "c", "d", "e", "f", "g"},
		{"a", "b", "b", "c", "c", "c", ""},
		{"a", "a", "a", "a", "a", "b", "b"},
	} {
		l := attrs(names...)
		var each func(i int)
		each = func(i int) {
			if i == len(l) {
				wantSort(t, l, secondSort(l))
				return
			}
			for j := i; j < len(l); j++ {
				l[i], l[j] = l[j], l[i]
				each(i + 1)
				l[i], l[j] = l[j], l[i]
			}
		}
		each(0)
	}
}

// P11.1: drawn lists, short and long, of few names and of many, against the second reading.
func TestSortDrawn(t *testing.T) {
	seed := uint64(13)
	for i := range 2000 {
		var names []string
		for range draw(&seed) % uint64(1+i/10) {
			names = append(names, strings.Repeat(string([]byte{byte('a' + draw(&seed)%5)}), int(draw(&seed)%uint64(1+i/100))))
		}
		l := attrs(names...)
		wantSort(t, l, secondSort(l))
	}
}

// P11.1: long lists: of one Name, of names that rise, of names that fall, each once and twice.
func TestSortLong(t *testing.T) {
	const n = 50000
	one, rise, fall := make([]string, n), make([]string, n), make([]string, n)
	for i := range n {
		name := strconv.Itoa(n + i)
		one[i], rise[i], fall[n-1-i] = "x", name, name
	}
	up, down := attrs(rise...), attrs(fall...)
	slices.Reverse(down)
	wantSort(t, attrs(one...), attrs("x"))
	wantSort(t, attrs(rise...), up)
	wantSort(t, attrs(fall...), down)
	wantSort(t, attrs(slices.Concat(rise, fall)...), up)
	wantSort(t, attrs(slices.Concat(fall, rise)...), down)
}

// R3: what is answered is new memory, with its spare room, and what is handed in is not kept.
func TestSortNewMemory(t *testing.T) {
	l := append(make([]api.Attr, 0, 8), attrs("c", "a", "b", "a")...)
	was := slices.Clone(l[:cap(l)])
	one, two := scan.Sort(l), scan.Sort(l)
	want := slices.Clone(two)
	all := one[:cap(one)]
	for i := range all {
		all[i] = api.Attr{Name: "x", Value: "y"}
	}
	if !slices.Equal(l[:cap(l)], was) || !slices.Equal(two, want) {
		t.Errorf("an answer shares memory: %v, %v", l, two)
	}
	clear(l[:cap(l)])
	if !slices.Equal(two, want) {
		t.Errorf("what is handed in is kept: %v", two)
	}
}

// P11.1: attributes that a tag is said with stay as they are.
func TestSortOfTags(t *testing.T) {
	for _, x := range scan.All("<a d=1 c=2 b=3 C=4><p x y z X><i>") {
		wantSort(t, x.Attrs, x.Attrs)
	}
}
