package format_test

import (
	"fmt"
	"testing"

	"topiary/format"
)

// tried does calls one behind the other and holds what they answer, and all that the list answers then, against the second reading.
func tried(t *testing.T, calls []call, names []string, maxID int) {
	t.Helper()
	defer func() {
		if t.Failed() {
			for _, c := range calls {
				t.Log(c.text)
			}
		}
	}()
	l, s := format.New(), newSecond()
	for _, c := range calls {
		if !c.do(l, s) {
			t.Fatalf("%s answers otherwise", c.text)
		}
	}
	wantSecond(t, l, s, names, maxID)
}

// P13.1: all rows of up to six of some calls, against the second reading.
func TestShort(t *testing.T) {
	plain := func(id int) format.Entry { return entry(id, "b") }
	choices := []func(id int) call{
		func(id int) call { return callPush(plain(id)) },
		func(id int) call { return callPush(entry(id, "b", "x", "1")) },
		func(id int) call { return callMark() },
		func(id int) call { return callClear() },
		func(id int) call { return callPut(0, plain(id)) },
		func(id int) call { return callPut(2, plain(id)) },
		func(id int) call { return callRemove(1) },
		func(id int) call { return callSwap(2, plain(id)) },
	}
	var grow func(calls []call)
	grow = func(calls []call) {
		tried(t, calls, []string{"b", "i"}, 6)
		if len(calls) == 6 || t.Failed() {
			return
		}
		for _, c := range choices {
			grow(append(calls[:len(calls):len(calls)], c(len(calls)+1)))
		}
	}
	grow(nil)
}

// P13.1: all rows of up to ten pushed entries of two sorts and markers, against the second reading.
func TestShortPushes(t *testing.T) {
	for n := range 11 {
		rows := 1
		for range n {
			rows *= 3
		}
		for row := range rows {
			l, s := format.New(), newSecond()
			for i, left := 1, row; i <= n; i, left = i+1, left/3 {
				do := []call{callPush(entry(i, "b")), callPush(entry(i, "b", "", "")), callMark()}[left%3]
				do.do(l, s)
			}
			wantSecond(t, l, s, []string{"b"}, n)
		}
	}
}

// P13.1: drawn calls, against the second reading behind each of them.
func TestDrawn(t *testing.T) {
	names := []string{"a", "b", ""}
	words := []string{"", "x", "y", "xy"}
	seed := uint64(13)
	drawnEntry := func(sorts int) format.Entry {
		e := entry(1+draw(&seed, 12), names[draw(&seed, min(sorts, len(names)))])
		for range draw(&seed, sorts) {
			e.Attrs = append(e.Attrs, entry(0, "", words[draw(&seed, sorts)], words[draw(&seed, sorts)]).Attrs...)
		}
		if draw(&seed, 8) == 0 { // beyond what an element may have
			for i := range 12 {
				e.Attrs = append(e.Attrs, entry(0, "", fmt.Sprint(i), "").Attrs...)
			}
		}
		return e
	}
	for round := range 3000 {
		l, s := format.New(), newSecond()
		sorts := 1 + round%4
		for range 60 {
			e, id, at := drawnEntry(sorts), 1+draw(&seed, 14), draw(&seed, l.Len()+4)-1
			choice := []call{callPush(e), callPush(e), callPush(e), callPush(e), callPut(at, e), callPut(at, e), callSwap(id, e), callSwap(id, e), callRemove(id), callMark(), callMark(), callClear()}
			c := choice[draw(&seed, len(choice))]
			if !c.do(l, s) {
				t.Fatalf("%s answers otherwise", c.text)
			}
			wantSecond(t, l, s, append(names, "c"), 14)
		}
	}
}

// P13.1: a long list.
func TestLong(t *testing.T) {
	const n = 1 << 15
	l := format.New()
	for id := 1; id <= n; id++ {
		l.Push(entry(id, "b", "x", fmt.Sprint(id)))
		if id%4096 == 0 {
			l.Mark()
		}
	}
	if l.Len() != n+n/4096 {
		t.Fatalf("Len is %d, want %d", l.Len(), n+n/4096)
	}
	for id := 1; id <= 100; id++ {
		l.Push(entry(n+id, "i"))
		if want := n + n/4096 + min(id, 3); l.Len() != want {
			t.Fatalf("Len is %d, want %d", l.Len(), want)
		}
	}
	if got := l.Place(n); got != n+n/4096-2 {
		t.Errorf("Place(%d) is %d", n, got)
	}
	for range n / 4096 {
		l.Clear()
	}
	if l.Len() != 4096 || l.Place(1) != 0 || l.Place(4096) != 4095 {
		t.Errorf("Len is %d, places %d, %d", l.Len(), l.Place(1), l.Place(4096))
	}
	l.Clear()
	wantIDs(t, l)
}
