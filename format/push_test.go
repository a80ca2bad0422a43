package format_test

import (
	"fmt"
	"slices"
	"strings"
	"testing"

	"topiary/api"
	"topiary/format"
)

// mark is a marker, for pushed.
var mark = format.Entry{}

// b is an entry that is like all others of b.
func b(id int) format.Entry { return entry(id, "b", "x", "1", "y", "2") }

// P13.1: the chapter's example.
func TestPushExample(t *testing.T) {
	l := format.New()
	for range 4 {
		l.Push(entry(1, "b"))
	}
	if l.Len() != 3 {
		t.Errorf("Len is %d, want 3", l.Len())
	}
}

// P13.1: one, two, three, four and more that are alike.
func TestPushAlike(t *testing.T) {
	for _, attrs := range [][]string{nil, {"x", "1"}, {"", ""}, {"x", "1", "y", "2"}, {"x", "1", "x", "1"}} {
		l := format.New()
		var want []int
		for id := 1; id <= 20; id++ {
			l.Push(entry(id, "b", attrs...))
			want = append(want, id)
			wantIDs(t, l, want[max(0, len(want)-3):]...)
		}
	}
}

// P13.1: entries are alike whatever their IDs are; nil and an empty list of attributes are one.
func TestPushAnyID(t *testing.T) {
	l := format.New()
	for _, id := range far {
		e := entry(id, "b")
		if id%2 == 0 {
			e.Attrs = []api.Attr{}
		}
		l.Push(e)
	}
	wantIDs(t, l, far[len(far)-3:]...)
	one := pushed(b(7), b(7), b(7), b(7), b(7))
	wantIDs(t, one, 7, 7, 7)
}

// P13.1: what is not alike stays: another Name, one attribute's Name, its Value, one attribute more or less, another order.
func TestPushUnlike(t *testing.T) {
	others := []format.Entry{
		entry(4, "i", "x", "1", "y", "2"), entry(4, "B", "x", "1", "y", "2"), entry(4, "", "x", "1", "y", "2"), entry(4, "bb", "x", "1", "y", "2"), entry(4, "b ", "x", "1", "y", "2"),
		entry(4, "b", "z", "1", "y", "2"), entry(4, "b", "x", "1", "z", "2"), entry(4, "b", "X", "1", "y", "2"), entry(4, "b", "", "1", "y", "2"),
		entry(4, "b", "x", "3", "y", "2"), entry(4, "b", "x", "1", "y", "3"), entry(4, "b", "x", "", "y", "2"), entry(4, "b", "x", "1", "y", ""), entry(4, "b", "x", "1", "y", "2 "),
		entry(4, "b", "x", "1", "y", "2", "z", "3"), entry(4, "b", "x", "1", "y", "2", "", ""), entry(4, "b", "", "", "x", "1", "y", "2"), entry(4, "b", "x", "1", "y", "2", "y", "2"),
		entry(4, "b", "x", "1"), entry(4, "b", "y", "2"), entry(4, "b"), entry(4, "b", "", ""),
		entry(4, "b", "y", "2", "x", "1"), entry(4, "b", "x", "2", "y", "1"), entry(4, "b", "1", "x", "2", "y"),
	}
	for _, o := range others {
		l := pushed(b(1), b(2), b(3), o)
		wantIDs(t, l, 1, 2, 3, 4)
		l.Push(b(5))
		wantIDs(t, l, 2, 3, 4, 5)
		// The other one counts for its like alone.
		l = pushed(b(1), b(2), o, b(3))
		wantIDs(t, l, 1, 2, 4, 3)
		for id := 5; id <= 7; id++ {
			o.ID = id
			l.Push(o)
		}
		wantIDs(t, l, 1, 2, 3, 5, 6, 7)
	}
}

// P13.1: alike ones with others between them.
func TestPushBetween(t *testing.T) {
	o := func(id int) format.Entry { return entry(id, "i") }
	wantIDs(t, pushed(o(11), b(1), o(12), b(2), o(13), b(3), b(4)), 11, 12, 2, 13, 3, 4)
	wantIDs(t, pushed(b(1), o(11), b(2), o(12), b(3), o(13), b(4), o(14)), 2, 12, 3, 13, 4, 14)
	wantIDs(t, pushed(o(11), o(12), b(1), b(2), o(13), b(3), o(14)), 12, 1, 2, 13, 3, 14)
	l := format.New()
	for id := 1; id <= 300; id++ {
		l.Push(entry(id, fmt.Sprint("n", id%100), "x", "1"))
	}
	if l.Len() != 300 {
		t.Errorf("Len is %d, want 300", l.Len())
	}
	for id := 301; id <= 400; id++ {
		l.Push(entry(id, fmt.Sprint("n", id%100), "x", "1"))
		if l.Len() != 300 || l.Place(id) != 299 || l.Place(id-300) != -1 || l.Place(id-299) != 0 {
			t.Errorf("%d: Len is %d, places %d, %d, %d", id, l.Len(), l.Place(id), l.Place(id-300), l.Place(id-299))
		}
	}
}

// P13.1: a marker ahead of, between and behind the three; alike ones ahead of the last marker.
func TestPushMarkers(t *testing.T) {
	for _, x := range []struct{ calls, want []format.Entry }{
		{[]format.Entry{mark, b(1), b(2), b(3), b(4)}, []format.Entry{mark, b(2), b(3), b(4)}},
		{[]format.Entry{b(1), mark, b(2), b(3), b(4)}, []format.Entry{b(1), mark, b(2), b(3), b(4)}},
		{[]format.Entry{b(1), b(2), mark, b(3), b(4)}, []format.Entry{b(1), b(2), mark, b(3), b(4)}},
		{[]format.Entry{b(1), b(2), b(3), mark, b(4)}, []format.Entry{b(1), b(2), b(3), mark, b(4)}},
		{[]format.Entry{b(1), b(2), b(3), b(4), mark}, []format.Entry{b(2), b(3), b(4), mark}},
		{[]format.Entry{b(1), b(2), b(3), mark, mark, b(4)}, []format.Entry{b(1), b(2), b(3), mark, mark, b(4)}},
		{[]format.Entry{b(1), mark, b(2), mark, b(3), mark, b(4)}, []format.Entry{b(1), mark, b(2), mark, b(3), mark, b(4)}},
		{[]format.Entry{b(1), b(2), b(3), mark, b(4), b(5), b(6), b(7)}, []format.Entry{b(1), b(2), b(3), mark, b(5), b(6), b(7)}},
		{[]format.Entry{b(1), b(2), b(3), mark, b(4), b(5), b(6), mark, b(7), b(8), b(9), b(10)}, []format.Entry{b(1), b(2), b(3), mark, b(4), b(5), b(6), mark, b(8), b(9), b(10)}},
	} {
		l := pushed(x.calls...)
		var want []int
		for i, e := range x.want {
			want = append(want, e.ID)
			got, ok := l.At(i)
			wantEntry(t, got, ok, e, true)
		}
		wantIDs(t, l, want...)
	}
}

// P13.1: behind a Clear those ahead of the marker are the ones that count, and those that are gone do not.
func TestPushCleared(t *testing.T) {
	l := pushed(b(1), b(2), b(3), mark, b(4), b(5), b(6))
	l.Clear()
	wantIDs(t, l, 1, 2, 3)
	l.Mark()
	l.Push(b(7))
	wantIDs(t, l, 1, 2, 3, 0, 7)
	l.Clear()
	l.Push(b(8))
	wantIDs(t, l, 2, 3, 8)
	l.Clear()
	for id := 1; id <= 3; id++ {
		l.Push(b(id))
	}
	wantIDs(t, l, 1, 2, 3)
}

// P13.1: one of the three put in by Put; the first one is that which stands first, not that which came first.
func TestPushPut(t *testing.T) {
	for at, want := range [][]int{{1, 2, 4}, {3, 2, 4}, {2, 3, 4}} {
		l := pushed(b(1), b(2))
		l.Put(at, b(3))
		l.Push(b(4))
		wantIDs(t, l, want...)
	}
	// Put takes none away, so there may be more than three: one of them goes.
	l := format.New()
	for id := 1; id <= 6; id++ {
		if !l.Put(0, b(id)) {
			t.Error("Put at 0 is false")
		}
	}
	wantIDs(t, l, 6, 5, 4, 3, 2, 1)
	for _, want := range [][]int{{5, 4, 3, 2, 1, 7}, {4, 3, 2, 1, 7, 7}, {3, 2, 1, 7, 7, 7}} {
		l.Push(b(7))
		wantIDs(t, l, want...)
	}
	// Put ahead of a marker counts there; just behind it, here.
	l = pushed(b(1), mark, b(2), b(3))
	l.Put(1, b(4))
	l.Push(b(5))
	wantIDs(t, l, 1, 4, 0, 2, 3, 5)
	l = pushed(b(1), mark, b(2), b(3))
	l.Put(2, b(4))
	l.Push(b(5))
	wantIDs(t, l, 1, 0, 2, 3, 5)
	l.Put(0, b(6))
	l.Put(0, b(7))
	l.Push(b(8))
	wantIDs(t, l, 7, 6, 1, 0, 3, 5, 8)
	l.Clear()
	l.Push(b(9))
	wantIDs(t, l, 6, 1, 9)
	// A marker alone.
	l = pushed(mark)
	l.Put(0, b(1))
	l.Put(0, b(2))
	l.Put(0, b(3))
	l.Put(4, b(4))
	l.Push(b(5))
	wantIDs(t, l, 3, 2, 1, 0, 4, 5)
}

// P13.1: one of the three came, or went, by Swap.
func TestPushSwap(t *testing.T) {
	l := pushed(b(1), entry(2, "i"), b(3))
	l.Swap(2, b(4))
	l.Push(b(5))
	wantIDs(t, l, 4, 3, 5)
	l.Swap(3, entry(6, "i"))
	l.Push(b(7))
	wantIDs(t, l, 4, 6, 5, 7)
	l.Swap(6, b(8))
	wantIDs(t, l, 4, 8, 5, 7)
	l.Push(b(9))
	wantIDs(t, l, 8, 5, 7, 9)
	// One ahead of the marker stays there.
	l = pushed(entry(1, "i"), mark, b(2), b(3))
	l.Swap(1, b(4))
	l.Push(b(5))
	wantIDs(t, l, 4, 0, 2, 3, 5)
	// The first one swapped for one that is alike.
	l = pushed(b(1), b(2), b(3))
	l.Swap(1, b(4))
	l.Push(b(5))
	wantIDs(t, l, 2, 3, 5)
}

// P13.1: one of the three taken out by Remove ahead of the fourth.
func TestPushRemove(t *testing.T) {
	for gone := 1; gone <= 3; gone++ {
		l := pushed(b(1), b(2), b(3))
		l.Remove(gone)
		l.Push(b(4))
		want := slices.Delete([]int{1, 2, 3, 4}, gone-1, gone)
		wantIDs(t, l, want...)
		l.Push(b(5))
		wantIDs(t, l, append(want[1:], 5)...)
	}
	// One that stood ahead of the marker, alike too.
	l := pushed(b(1), mark, b(2), b(3), b(4))
	l.Remove(1)
	l.Push(b(5))
	wantIDs(t, l, 0, 3, 4, 5)
}

// P13.1: many attributes: each one of them, and how many they are, tells entries from one another.
func TestPushMany(t *testing.T) {
	many := func(id, n int) format.Entry {
		e := entry(id, "b")
		for i := range n {
			e.Attrs = append(e.Attrs, api.Attr{Name: fmt.Sprint("a", i), Value: fmt.Sprint(i)})
		}
		return e
	}
	l := format.New()
	for n := range 60 {
		for id := 1; id <= 4; id++ {
			l.Push(many(id, n))
		}
		if l.Len() != 3*n+3 {
			t.Errorf("%d attributes: Len is %d, want %d", n, l.Len(), 3*n+3)
		}
	}
	for _, n := range []int{1, 11, 12, 13, 14, 24, 25, 40, 300} {
		l := pushed(many(1, n), many(2, n), many(3, n))
		for i := range n {
			name, value := many(4, n), many(5, n)
			name.Attrs[i].Name += "x"
			value.Attrs[i].Value += "x"
			l.Push(name)
			l.Push(value)
			if i > 0 {
				turned := many(6, n)
				turned.Attrs[i-1], turned.Attrs[i] = turned.Attrs[i], turned.Attrs[i-1]
				l.Push(turned)
			}
		}
		if l.Len() != 3+3*n-1 || l.Place(1) != 0 {
			t.Errorf("%d attributes: Len is %d, want %d", n, l.Len(), 3+3*n-1)
		}
		l.Push(many(7, n))
		if l.Len() != 3+3*n-1 || l.Place(1) != -1 {
			t.Errorf("%d attributes: the fourth one: Len is %d, want %d", n, l.Len(), 3+3*n-1)
		}
		e, ok := l.Last("b")
		wantEntry(t, e, ok, many(7, n), true)
	}
}

// P13.1: attributes whose Names and Values put together are the same bytes, and apart are not: lists of none, one and two, alone and behind others.
func TestPushBytes(t *testing.T) {
	words := []string{"", "a", "b", "ab", "1", "1 a", "0 ", " ", "  ", "\x00", "\x00\x00", "=", "\""}
	// The first two are the same bytes even where each text stands behind its length, if nothing is between them.
	const nine = "aaaaaaaaa"
	lists := [][]api.Attr{{{Name: "9" + nine, Value: "0"}, {Name: nine}}, {{Name: "0", Value: nine}, {Name: "9" + nine}}, nil}
	for _, name := range words {
		for _, value := range words {
			one := api.Attr{Name: name, Value: value}
			lists = append(lists, []api.Attr{one}, []api.Attr{{}, one}, []api.Attr{one, {Name: "a"}}, []api.Attr{{Name: "a", Value: "b"}, one}, []api.Attr{one, {Name: "1", Value: "a"}})
		}
	}
	lists = distinct(lists)
	for _, n := range []int{0, 1, 10, 11, 12, 13, 30} {
		ahead := make([]api.Attr, n)
		l := format.New()
		for round := 1; round <= 4; round++ {
			for i, attrs := range lists {
				l.Push(format.Entry{ID: i + 1, Name: "b", Attrs: append(slices.Clone(ahead), attrs...)})
			}
			if want := min(round, 3) * len(lists); l.Len() != want {
				t.Errorf("%d ahead, round %d: Len is %d, want %d", n, round, l.Len(), want)
			}
		}
	}
}

// distinct are these lists, each once.
func distinct(l [][]api.Attr) [][]api.Attr {
	var out [][]api.Attr
	for _, x := range l {
		if !slices.ContainsFunc(out, func(y []api.Attr) bool { return slices.Equal(x, y) }) {
			out = append(out, x)
		}
	}
	return out
}

// P13.1: a Name and attributes that put together are the same bytes.
func TestPushNameBytes(t *testing.T) {
	l := pushed(entry(1, "bx", "1", ""), entry(2, "b", "x1", ""), entry(3, "b", "x", "1"), entry(4, "b", "", "x1"), entry(5, "bx1"), entry(6, "", "bx1", ""), entry(7, "", "b", "x1"))
	wantIDs(t, l, 1, 2, 3, 4, 5, 6, 7)
	long := strings.Repeat("a", 1<<20)
	l = pushed(entry(1, long, long, long), entry(2, long, long, long), entry(3, long, long, long), entry(4, long, long, long+"b"), entry(5, long, long+"b", long), entry(6, long+"b", long, long))
	wantIDs(t, l, 1, 2, 3, 4, 5, 6)
	l.Push(entry(7, long, long, long))
	wantIDs(t, l, 2, 3, 4, 5, 6, 7)
}

// P13.1: Mark of an empty list, twice, of one with entries.
func TestMark(t *testing.T) {
	l := format.New()
	l.Mark()
	wantIDs(t, l, 0)
	l.Mark()
	wantIDs(t, l, 0, 0)
	l.Push(b(1))
	l.Mark()
	l.Mark()
	wantIDs(t, l, 0, 0, 1, 0, 0)
	// A marker never goes by itself, however many there are.
	for range 10 {
		l.Mark()
	}
	if l.Len() != 15 {
		t.Errorf("Len is %d, want 15", l.Len())
	}
}

// P13.1: Clear of an empty list, without a marker, with one, with several, with one that is last.
func TestClear(t *testing.T) {
	for _, x := range []struct {
		list []format.Entry
		want []int
	}{
		{nil, nil},
		{[]format.Entry{b(1)}, nil},
		{[]format.Entry{b(1), entry(2, "i"), b(3)}, nil},
		{[]format.Entry{mark}, nil},
		{[]format.Entry{mark, b(1), b(2)}, nil},
		{[]format.Entry{b(1), mark, b(2), entry(3, "i")}, []int{1}},
		{[]format.Entry{b(1), b(2), mark}, []int{1, 2}},
		{[]format.Entry{mark, mark}, []int{0}},
		{[]format.Entry{b(1), mark, b(2), mark}, []int{1, 0, 2}},
		{[]format.Entry{b(1), mark, b(2), mark, b(3)}, []int{1, 0, 2}},
		{[]format.Entry{b(1), mark, mark, b(2)}, []int{1, 0}},
	} {
		l := pushed(x.list...)
		l.Clear()
		wantIDs(t, l, x.want...)
	}
	l := pushed(b(1), mark, b(2), mark, mark, b(3))
	for _, want := range [][]int{{1, 0, 2, 0}, {1, 0, 2}, {1}, nil, nil} {
		l.Clear()
		wantIDs(t, l, want...)
	}
	l.Push(b(4))
	wantIDs(t, l, 4)
}
