package format_test

import (
	"slices"
	"testing"

	"topiary/api"
	"topiary/format"
)

// P13.1: an empty list.
func TestEmpty(t *testing.T) {
	l := format.New()
	if l.Len() != 0 {
		t.Errorf("Len is %d", l.Len())
	}
	for _, i := range append([]int{0, 1}, far...) {
		e, ok := l.At(i)
		wantEntry(t, e, ok, format.Entry{}, false)
		if l.Place(i) != -1 || l.Remove(i) || l.Swap(i, b(1)) || i != 0 && l.Put(i, b(1)) {
			t.Errorf("%d is there", i)
		}
	}
	for _, name := range []string{"", "b"} {
		e, ok := l.Last(name)
		wantEntry(t, e, ok, format.Entry{}, false)
	}
	wantIDs(t, l)
}

// P13.1: Last of a name that is not there, that is ahead of the last marker alone, that is there more than once.
func TestLast(t *testing.T) {
	list := []format.Entry{entry(1, "a"), entry(2, "b", "x", "1"), entry(3, "a", "y", "2"), entry(4, ""), entry(5, "b", "x", "1", "z", "")}
	l := pushed(list...)
	for _, x := range []struct {
		name string
		at   int
	}{{"a", 2}, {"b", 4}, {"", 3}} {
		e, ok := l.Last(x.name)
		wantEntry(t, e, ok, list[x.at], true)
	}
	for _, name := range []string{"i", "A", "B", "ab", "b ", " ", "bx", "x", "1"} {
		e, ok := l.Last(name)
		wantEntry(t, e, ok, format.Entry{}, false)
	}
	l.Mark()
	for _, name := range []string{"a", "b", "", "i"} {
		e, ok := l.Last(name)
		wantEntry(t, e, ok, format.Entry{}, false)
	}
	l.Push(entry(6, "b"))
	e, ok := l.Last("b")
	wantEntry(t, e, ok, entry(6, "b"), true)
	e, ok = l.Last("a")
	wantEntry(t, e, ok, format.Entry{}, false)
	l.Put(l.Len()-1, entry(7, "b"))
	l.Put(5, entry(8, "a"))
	e, ok = l.Last("b")
	wantEntry(t, e, ok, entry(6, "b"), true)
	e, ok = l.Last("a")
	wantEntry(t, e, ok, format.Entry{}, false)
	l.Remove(6)
	e, ok = l.Last("b")
	wantEntry(t, e, ok, entry(7, "b"), true)
	l.Swap(7, entry(9, "a"))
	e, ok = l.Last("b")
	wantEntry(t, e, ok, format.Entry{}, false)
	e, ok = l.Last("a")
	wantEntry(t, e, ok, entry(9, "a"), true)
	l.Clear()
	e, ok = l.Last("a")
	wantEntry(t, e, ok, entry(8, "a"), true)
	e, ok = l.Last("b")
	wantEntry(t, e, ok, list[4], true)
}

// P13.1: Last of a name behind a marker that is last, or the only one.
func TestLastMarkers(t *testing.T) {
	for _, list := range [][]format.Entry{{mark}, {mark, mark}, {b(1), mark}, {mark, b(1), mark}, {b(1), mark, b(2), mark, mark}} {
		for _, name := range []string{"b", ""} {
			e, ok := pushed(list...).Last(name)
			wantEntry(t, e, ok, format.Entry{}, false)
		}
	}
}

// P13.1: Place of a number that is there, that is not, that is there twice; markers have places, but no number.
func TestPlace(t *testing.T) {
	l := pushed(b(5), mark, b(7), entry(5, "i"), mark, entry(-30, "b"), entry(7, "u"))
	for id, want := range map[int]int{5: 0, 7: 2, -30: 5, 0: -1, 1: -1, 6: -1, -1: -1, 3: -1} {
		if got := l.Place(id); got != want {
			t.Errorf("Place(%d) is %d, want %d", id, got, want)
		}
	}
	for _, id := range far {
		if got := l.Place(id); got != -1 {
			t.Errorf("Place(%d) is %d, want -1", id, got)
		}
	}
	l = format.New()
	for i, id := range far {
		l.Push(entry(id, "b", "x", string(rune('a'+i))))
	}
	for i, id := range far {
		if got := l.Place(id); got != i {
			t.Errorf("Place(%d) is %d, want %d", id, got, i)
		}
	}
}

// P13.1: At of places less than 0, of each place, of Len, of a marker.
func TestAt(t *testing.T) {
	list := []format.Entry{b(1), mark, entry(2, "i"), entry(3, "", "", ""), mark, mark, b(4)}
	l := pushed(list...)
	for i, want := range list {
		e, ok := l.At(i)
		wantEntry(t, e, ok, want, true)
	}
	for _, i := range append([]int{l.Len(), l.Len() + 1}, far...) {
		e, ok := l.At(i)
		wantEntry(t, e, ok, format.Entry{}, false)
	}
}

// P13.1: Len with entries and markers.
func TestLen(t *testing.T) {
	l := format.New()
	for i, do := range []func(){
		l.Mark, l.Mark, func() { l.Push(b(1)) }, func() { l.Push(b(2)) }, l.Mark, func() { l.Put(0, b(3)) }, func() { l.Put(4, b(4)) },
	} {
		do()
		if l.Len() != i+1 {
			t.Errorf("Len is %d, want %d", l.Len(), i+1)
		}
	}
	for _, x := range []struct {
		do   func()
		want int
	}{
		{func() { l.Swap(1, b(5)) }, 7}, {func() { l.Remove(9) }, 7}, {func() { l.Put(8, b(6)) }, 7}, {func() { l.Remove(5) }, 6}, {l.Clear, 5}, {l.Clear, 2}, {l.Clear, 1}, {l.Clear, 0}, {l.Clear, 0},
	} {
		x.do()
		if l.Len() != x.want {
			t.Errorf("Len is %d, want %d", l.Len(), x.want)
		}
	}
}

// P13.1: Remove of a number that is there, that is not, that is there twice; no marker goes.
func TestRemove(t *testing.T) {
	l := pushed(b(1), mark, b(2), entry(1, "i"), mark, b(3))
	for _, id := range append([]int{0, 4}, far...) {
		if l.Remove(id) {
			t.Errorf("Remove(%d) is true", id)
		}
	}
	wantIDs(t, l, 1, 0, 2, 1, 0, 3)
	for _, x := range []struct {
		id   int
		ok   bool
		want []int
	}{
		{1, true, []int{0, 2, 1, 0, 3}}, {1, true, []int{0, 2, 0, 3}}, {1, false, []int{0, 2, 0, 3}},
		{3, true, []int{0, 2, 0}}, {2, true, []int{0, 0}}, {2, false, []int{0, 0}}, {0, false, []int{0, 0}},
	} {
		if ok := l.Remove(x.id); ok != x.ok {
			t.Errorf("Remove(%d) is %v", x.id, ok)
		}
		wantIDs(t, l, x.want...)
	}
}

// P13.1: Put at 0, in the middle, at Len, at less than 0, at more than Len; with markers.
func TestPut(t *testing.T) {
	list := []format.Entry{b(1), mark, b(2), b(3), mark}
	for at := range len(list) + 1 {
		l := pushed(list...)
		if !l.Put(at, entry(9, "i", "x", "1")) {
			t.Errorf("Put(%d) is false", at)
		}
		wantIDs(t, l, slices.Insert([]int{1, 0, 2, 3, 0}, at, 9)...)
		e, ok := l.At(at)
		wantEntry(t, e, ok, entry(9, "i", "x", "1"), true)
	}
	l := pushed(list...)
	for _, at := range append([]int{6, 7}, far...) {
		if l.Put(at, b(9)) {
			t.Errorf("Put(%d) is true", at)
		}
	}
	wantIDs(t, l, 1, 0, 2, 3, 0)
	// A refused one does not count.
	l = pushed(b(1), b(2))
	l.Put(-1, b(3))
	l.Put(3, b(3))
	l.Push(b(4))
	wantIDs(t, l, 1, 2, 4)
	l = format.New()
	if !l.Put(0, b(1)) || !l.Put(1, b(1)) || l.Put(3, b(2)) || !l.Put(1, b(2)) {
		t.Error("Put of an empty list")
	}
	wantIDs(t, l, 1, 2, 1)
}

// P13.1: Swap of a number that is there, that is not, that is there twice; no marker is swapped.
func TestSwap(t *testing.T) {
	l := pushed(b(1), mark, b(2), entry(1, "i"), mark, b(3))
	for _, id := range append([]int{0, 4}, far...) {
		if l.Swap(id, b(9)) {
			t.Errorf("Swap(%d) is true", id)
		}
	}
	wantIDs(t, l, 1, 0, 2, 1, 0, 3)
	for _, x := range []struct {
		id   int
		e    format.Entry
		ok   bool
		at   int
		want []int
	}{
		{1, entry(5, "u", "x", "1"), true, 0, []int{5, 0, 2, 1, 0, 3}}, {1, entry(6, "b"), true, 3, []int{5, 0, 2, 6, 0, 3}}, {1, entry(7, "b"), false, 3, []int{5, 0, 2, 6, 0, 3}},
		{3, entry(2, "b"), true, 5, []int{5, 0, 2, 6, 0, 2}}, {2, entry(2, "u"), true, 2, []int{5, 0, 2, 6, 0, 2}}, {2, entry(8, "b"), true, 2, []int{5, 0, 8, 6, 0, 2}}, {2, entry(9, "s", "", ""), true, 5, []int{5, 0, 8, 6, 0, 9}},
	} {
		if ok := l.Swap(x.id, x.e); ok != x.ok {
			t.Errorf("Swap(%d) is %v", x.id, ok)
		}
		wantIDs(t, l, x.want...)
		if e, ok := l.At(x.at); x.ok {
			wantEntry(t, e, ok, x.e, true)
		}
	}
	// Swap takes none away, however many are alike; a refused one does not count.
	l = pushed(b(1), b(2), b(3), entry(4, "i"))
	l.Swap(4, b(5))
	wantIDs(t, l, 1, 2, 3, 5)
	l = pushed(b(1), b(2))
	l.Swap(3, b(4))
	l.Push(b(5))
	wantIDs(t, l, 1, 2, 5)
}

// P13.1: an ID of 0 is none that an entry has; one that is handed in is an entry all the same, and no marker.
func TestZeroID(t *testing.T) {
	l := pushed(b(1), mark)
	l.Push(entry(0, "b"))
	if l.Place(0) != 2 || l.Len() != 3 {
		t.Errorf("Place(0) is %d, Len %d", l.Place(0), l.Len())
	}
	e, ok := l.Last("b")
	wantEntry(t, e, ok, entry(0, "b"), true)
	if !l.Swap(0, b(2)) || l.Swap(0, b(3)) || l.Remove(0) {
		t.Error("Swap, Remove of 0")
	}
	wantIDs(t, l, 1, 0, 2)
	l.Push(entry(0, "i"))
	l.Clear()
	wantIDs(t, l, 1)
}

// P13.1, R3: lists that are handed in are neither changed nor kept, their spare room too.
func TestHandedIn(t *testing.T) {
	for name, do := range map[string]func(*format.List, format.Entry){
		"Push": func(l *format.List, e format.Entry) { l.Push(e) },
		"Put":  func(l *format.List, e format.Entry) { l.Put(1, e) },
		"Swap": func(l *format.List, e format.Entry) { l.Swap(1, e) },
	} {
		for n := range 20 {
			attrs := make([]api.Attr, n+3)
			for i := range attrs {
				attrs[i] = api.Attr{Name: string(rune('a' + i)), Value: "1"}
			}
			was := slices.Clone(attrs)
			l := pushed(entry(1, "i"))
			do(l, format.Entry{ID: 2, Name: "b", Attrs: attrs[:n]})
			if !slices.Equal(attrs, was) {
				t.Errorf("%s changed what was handed in", name)
			}
			for i := range attrs {
				attrs[i] = api.Attr{Name: "turned", Value: "turned"}
			}
			e, ok := l.Last("b")
			wantEntry(t, e, ok, format.Entry{ID: 2, Name: "b", Attrs: was[:n]}, true)
			// What counts is what was handed in, not what became of it.
			l.Push(format.Entry{ID: 3, Name: "b", Attrs: was[:n]})
			l.Push(format.Entry{ID: 4, Name: "b", Attrs: was[:n]})
			l.Push(format.Entry{ID: 5, Name: "b", Attrs: was[:n]})
			if l.Place(2) != -1 || l.Place(3) < 0 {
				t.Errorf("%s: there is %v", name, ids(l))
			}
		}
	}
}

// P13.1, R3: lists that are answered are new memory, their spare room too; no two share any.
func TestAnswered(t *testing.T) {
	full := entry(1, "b", "x", "1", "y", "2", "z", "3")
	l := pushed(full)
	spoil := func(e format.Entry) {
		all := e.Attrs[:cap(e.Attrs)]
		for i := range all {
			all[i] = api.Attr{Name: "turned", Value: "turned"}
		}
	}
	at, _ := l.At(0)
	last, _ := l.Last("b")
	again, _ := l.At(0)
	spoil(at)
	wantEntry(t, last, true, full, true)
	wantEntry(t, again, true, full, true)
	spoil(last)
	wantEntry(t, again, true, full, true)
	for range 3 {
		e, ok := l.At(0)
		wantEntry(t, e, ok, full, true)
		spoil(e)
		e, ok = l.Last("b")
		wantEntry(t, e, ok, full, true)
		spoil(format.Entry{Attrs: append(e.Attrs[:1], api.Attr{})})
	}
	// An entry that was answered is put in again, and spoilt then.
	e, _ := l.At(0)
	l.Push(e)
	l.Put(0, e)
	l.Swap(1, e)
	spoil(e)
	for i := range l.Len() {
		e, ok := l.At(i)
		wantEntry(t, e, ok, full, true)
	}
	l.Push(full)
	l.Push(full)
	if l.Len() != 3 {
		t.Errorf("Len is %d, want 3", l.Len())
	}
}

// P13.1, R4: two lists have nothing in common.
func TestApart(t *testing.T) {
	a, c := pushed(b(1), b(2), b(3)), pushed(mark, b(4))
	a.Push(b(5))
	c.Push(b(6))
	a.Clear()
	wantIDs(t, a)
	wantIDs(t, c, 0, 4, 6)
	c.Push(b(7))
	a.Push(b(8))
	wantIDs(t, a, 8)
	wantIDs(t, c, 0, 4, 6, 7)
	if format.New().Len() != 0 {
		t.Error("a new list has something")
	}
}
