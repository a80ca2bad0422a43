package format

import "testing"

// P13.1: what is gone is not kept: neither a key, nor an entry in the spare room.
func TestKept(t *testing.T) {
	l := New()
	for range 3 {
		for id := 1; id <= 30; id++ {
			l.Push(Entry{ID: id, Name: string(rune('a' + id%7))})
			l.Put(0, Entry{ID: 100 + id, Name: "z"})
			if id%10 == 0 {
				l.Mark()
			}
			l.Swap(id, Entry{ID: 200 + id, Name: string(rune('a' + id%5))})
			l.Remove(100 + id)
		}
		for l.Len() > 0 {
			l.Clear()
		}
		if len(l.alike) != 0 {
			t.Errorf("%d keys are kept", len(l.alike))
		}
		for _, x := range l.items[:cap(l.items)] {
			if x.entry.ID != 0 || x.entry.Name != "" || x.entry.Attrs != nil || x.marker {
				t.Errorf("kept: %v", x)
			}
		}
	}
}
