package format_test

import (
	"fmt"
	"math"
	"slices"
	"testing"

	"topiary/api"
	"topiary/format"
)

// The signatures that the chapter lists.
var (
	_ func() *format.List                             = format.New
	_ func(*format.List, format.Entry)                = (*format.List).Push
	_ func(*format.List)                              = (*format.List).Mark
	_ func(*format.List)                              = (*format.List).Clear
	_ func(*format.List, string) (format.Entry, bool) = (*format.List).Last
	_ func(*format.List, int) int                     = (*format.List).Place
	_ func(*format.List, int) (format.Entry, bool)    = (*format.List).At
	_ func(*format.List) int                          = (*format.List).Len
	_ func(*format.List, int) bool                    = (*format.List).Remove
	_ func(*format.List, int, format.Entry) bool      = (*format.List).Put
	_ func(*format.List, int, format.Entry) bool      = (*format.List).Swap
	_                                                 = format.Entry{ID: 0, Name: "", Attrs: []api.Attr(nil)}
)

// far are places that no list of a test has.
var far = []int{
	-1, -2, -3, -255, -256, math.MinInt16, math.MinInt32, math.MinInt32 - 1, -1 << 32, math.MinInt, math.MinInt + 1,
	1 << 20, math.MaxInt32, math.MaxInt32 + 1, 1 << 32, 1<<32 + 1, math.MaxInt - 1, math.MaxInt,
}

// entry is an entry; its attributes' names and values are handed in in turn.
func entry(id int, name string, attrs ...string) format.Entry {
	e := format.Entry{ID: id, Name: name}
	for i := 0; i < len(attrs); i += 2 {
		e.Attrs = append(e.Attrs, api.Attr{Name: attrs[i], Value: attrs[i+1]})
	}
	return e
}

// same tells whether two entries are one, whatever their memory.
func same(a, b format.Entry) bool {
	return a.ID == b.ID && a.Name == b.Name && slices.Equal(a.Attrs, b.Attrs)
}

// pushed is a list of entries that were pushed; one of ID 0 is a marker.
func pushed(entries ...format.Entry) *format.List {
	l := format.New()
	for _, e := range entries {
		if e.ID == 0 {
			l.Mark()
		} else {
			l.Push(e)
		}
	}
	return l
}

// ids are what stands in a list, 0 for a marker.
func ids(l *format.List) []int {
	var out []int
	for i := range l.Len() {
		e, _ := l.At(i)
		out = append(out, e.ID)
	}
	return out
}

// wantIDs holds what stands in a list against what should; 0 is a marker.
func wantIDs(t *testing.T, l *format.List, want ...int) {
	t.Helper()
	if got := ids(l); !slices.Equal(got, want) {
		t.Errorf("there is %v, want %v", got, want)
	}
}

// wantEntry holds an entry and a bool against what should be answered.
func wantEntry(t *testing.T, got format.Entry, ok bool, want format.Entry, wantOK bool) {
	t.Helper()
	if !same(got, want) || ok != wantOK {
		t.Errorf("answered %v, %v, want %v, %v", got, ok, want, wantOK)
	}
}

// second is a second reading of the chapter's words: rows of entries; between two rows there is a marker.
type second [][]format.Entry

// newSecond is an empty one.
func newSecond() *second { return &second{nil} }

func (s *second) tail() *[]format.Entry { return &(*s)[len(*s)-1] }

func (s *second) push(e format.Entry) {
	var alike []int
	for i, x := range *s.tail() {
		if x.Name == e.Name && slices.Equal(x.Attrs, e.Attrs) {
			alike = append(alike, i)
		}
	}
	if len(alike) > 2 {
		*s.tail() = slices.Delete(*s.tail(), alike[0], alike[0]+1)
	}
	*s.tail() = append(*s.tail(), e)
}

func (s *second) mark() { *s = append(*s, nil) }

func (s *second) clear() {
	if len(*s) == 1 {
		*s = second{nil}
		return
	}
	*s = (*s)[:len(*s)-1]
}

func (s *second) last(name string) (format.Entry, bool) {
	var found format.Entry
	ok := false
	for _, e := range *s.tail() {
		if e.Name == name {
			found, ok = e, true
		}
	}
	return found, ok
}

// flat are all entries, and nil for each marker.
func (s *second) flat() []*format.Entry {
	var out []*format.Entry
	for i := range *s {
		if i > 0 {
			out = append(out, nil)
		}
		for k := range (*s)[i] {
			out = append(out, &(*s)[i][k])
		}
	}
	return out
}

func (s *second) place(id int) int {
	return slices.IndexFunc(s.flat(), func(e *format.Entry) bool { return e != nil && e.ID == id })
}

// find is the row, and the place in it, of the first entry of an ID.
func (s *second) find(id int) (int, int) {
	for i, row := range *s {
		for k, e := range row {
			if e.ID == id {
				return i, k
			}
		}
	}
	return -1, -1
}

func (s *second) remove(id int) bool {
	i, k := s.find(id)
	if i < 0 {
		return false
	}
	(*s)[i] = slices.Delete((*s)[i], k, k+1)
	return true
}

func (s *second) swap(id int, e format.Entry) bool {
	i, k := s.find(id)
	if i < 0 {
		return false
	}
	(*s)[i][k] = e
	return true
}

func (s *second) put(at int, e format.Entry) bool {
	if at < 0 {
		return false
	}
	for i, row := range *s {
		if at <= len(row) {
			(*s)[i] = slices.Insert(row, at, e)
			return true
		}
		at -= len(row) + 1
	}
	return false
}

// wantSecond holds all that a list answers against the second reading.
func wantSecond(t *testing.T, l *format.List, s *second, names []string, maxID int) {
	t.Helper()
	flat := s.flat()
	if l.Len() != len(flat) {
		t.Fatalf("Len is %d, want %d", l.Len(), len(flat))
	}
	for i := -2; i < len(flat)+3; i++ {
		var want format.Entry
		ok := i >= 0 && i < len(flat)
		if ok && flat[i] != nil {
			want = *flat[i]
		}
		if got, is := l.At(i); !same(got, want) || is != ok {
			t.Fatalf("At(%d) is %v, %v, want %v, %v", i, got, is, want, ok)
		}
	}
	for id := -1; id <= maxID+1; id++ {
		if got, want := l.Place(id), s.place(id); got != want {
			t.Fatalf("Place(%d) is %d, want %d", id, got, want)
		}
	}
	for _, name := range names {
		want, ok := s.last(name)
		if got, is := l.Last(name); !same(got, want) || is != ok {
			t.Fatalf("Last(%q) is %v, %v, want %v, %v", name, got, is, want, ok)
		}
	}
}

// call is one call of a list and its like in the second reading; it tells whether both answer the same.
type call struct {
	text string
	do   func(*format.List, *second) bool
}

func callPush(e format.Entry) call {
	return call{fmt.Sprint("Push ", e), func(l *format.List, s *second) bool { l.Push(e); s.push(e); return true }}
}

func callMark() call {
	return call{"Mark", func(l *format.List, s *second) bool { l.Mark(); s.mark(); return true }}
}

func callClear() call {
	return call{"Clear", func(l *format.List, s *second) bool { l.Clear(); s.clear(); return true }}
}

func callRemove(id int) call {
	return call{fmt.Sprint("Remove ", id), func(l *format.List, s *second) bool { return l.Remove(id) == s.remove(id) }}
}

func callPut(i int, e format.Entry) call {
	return call{fmt.Sprint("Put ", i, e), func(l *format.List, s *second) bool { return l.Put(i, e) == s.put(i, e) }}
}

func callSwap(id int, e format.Entry) call {
	return call{fmt.Sprint("Swap ", id, e), func(l *format.List, s *second) bool { return l.Swap(id, e) == s.swap(id, e) }}
}

// draw is the next number of a row that looks drawn.
func draw(seed *uint64, n int) int {
	*seed = *seed*6364136223846793005 + 1442695040888963407
	return int(*seed >> 33 % uint64(n))
}
