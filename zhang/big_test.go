package zhang_test

import (
	"testing"

	"topiary/api"
	"topiary/zhang"
)

// doubled is a tree each of whose nodes but the last one has the next one twice: 2 to that power of them.
func doubled(levels int) api.Tree {
	x := text("t")
	for range levels {
		x = el("p", x, x)
	}
	return x
}

// wantBig tells that two trees are too big, either way round.
func wantBig(t *testing.T, a, b api.Tree) {
	t.Helper()
	for _, x := range [][2]api.Tree{{a, b}, {b, a}} {
		if got, e := zhang.Distance(x[0], x[1]); got != 0 || e != api.ErrBig {
			t.Errorf("%d, %d", got, e)
		}
		if got, e := zhang.Mapping(x[0], x[1]); got != nil || e != api.ErrBig {
			t.Errorf("%v, %d", got, e)
		}
	}
}

// shapes are trees of n nodes, from 4 on: deep ones, wide ones and such as are both.
func shapes(n int) []api.Tree {
	return []api.Tree{
		most(n - 1), chain(n-1, text("t")), root(append(most(n-3).Kids, el("p", el("p")))...), root(chain(n-3, text("t")), text("u")),
		root(text("u"), chain(n-3, text("t"))), el("q", most(n-2)), chain(n-3, el("p", text("t"), text("u"))),
	}
}

// The test's own trees are as big as they are said to be.
func TestShapes(t *testing.T) {
	for n := api.MaxZhang - 1; n < 20; n++ {
		for i, x := range shapes(n) {
			if sizeOf(x) != n {
				t.Errorf("shape %d of %d has %d nodes", i, n, sizeOf(x))
			}
		}
	}
}

// P20.2, P20.3: as many nodes as may be, on both sides; a node less on either.
func TestMost(t *testing.T) {
	for _, n := range []int{api.MaxZhang - 1, api.MaxZhang} {
		for _, a := range shapes(n) {
			for _, m := range []int{api.MaxZhang - 1, api.MaxZhang} {
				for _, b := range shapes(m) {
					wantSecond(t, a, b)
				}
			}
		}
	}
	a, b := most(api.MaxZhang-1), chain(api.MaxZhang-1, text("t"))
	wantApart(t, a, b, 2*api.MaxZhang-2, pairs(1, 7))
	wantApart(t, a, copied(a), 0, themselves(api.MaxZhang))
	wantApart(t, b, copied(b), 0, themselves(api.MaxZhang))
}

// P20.2, P20.3: a node more than may be, on either side and on both, of trees that are the same, too.
func TestTooBig(t *testing.T) {
	for _, more := range []int{1, 2, 9} {
		for _, x := range shapes(api.MaxZhang + more) {
			for _, y := range shapes(api.MaxZhang) {
				wantBig(t, x, y)
			}
			wantBig(t, x, text("t"))
			wantBig(t, x, api.Tree{})
			wantBig(t, x, x)
		}
	}
}

// R1: far deeper and far bigger than may be.
func TestFarTooBig(t *testing.T) {
	far := []api.Tree{chain(1<<20, text("t")), most(1 << 20), doubled(200), root(most(3), doubled(1000)), el("p", chain(1<<17, text("t")), text("t"))}
	for _, x := range far {
		for _, y := range append(far, text("t"), most(api.MaxZhang-1)) {
			wantBig(t, x, y)
		}
	}
}
