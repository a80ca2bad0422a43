package similar_test

import (
	"math"
	"math/big"
	"testing"

	"topiary/similar"
)

// billion is the greatest number that a share is told of.
const billion = 1000000000

// share is c / s as the chapter has it, as a number of its own.
func share(c, s int) *big.Rat {
	if s == 0 {
		c, s = 0, 1
	}
	return big.NewRat(int64(c), int64(s))
}

// P19.1: Dice: more, the same, less; either way round.
func TestDice(t *testing.T) {
	for _, x := range [][5]int{
		{1, 2, 1, 3, 1}, {1, 3, 1, 2, -1}, {1, 2, 1, 2, 0}, {2, 4, 1, 2, 0}, {3, 9, 2, 6, 0}, {0, 5, 0, 7, 0}, {7, 7, 1, 1, 0},
		{0, 5, 1, billion, -1}, {3, 2, 1, 1, 1}, {2, 3, 3, 4, -1}, {5, 7, 7, 10, 1},
		// of nothing
		{5, 0, 0, 7, 0}, {5, 0, 1, 7, -1}, {1, 7, 5, 0, 1}, {0, 0, 0, 0, 0}, {5, 0, 9, 0, 0}, {0, 0, 5, 0, 0}, {0, 0, 1, billion, -1}, {billion, 0, 0, 1, 0}, {billion, 0, 1, 1, -1},
		// that differ by little
		{billion - 1, billion, billion - 2, billion - 1, 1}, {billion, billion, billion - 1, billion, 1}, {1, billion, 1, billion - 1, -1},
		{billion / 2, billion, billion/2 - 1, billion - 1, 1}, {333333333, billion, 1, 3, -1}, {333333334, billion, 1, 3, 1}, {billion, billion - 1, billion - 1, billion - 2, -1},
		{billion / 2, billion, 1, 2, 0}, {billion, billion, 1, 1, 0}, {billion, 1, billion, 1, 0}, {billion, 1, 1, billion, 1}, {billion, 1, billion - 1, 1, 1},
	} {
		if got := similar.Dice(x[0], x[1], x[2], x[3]); got != x[4] {
			t.Error(x, got)
		}
		if got := similar.Dice(x[2], x[3], x[0], x[1]); got != -x[4] {
			t.Error(x, "the other way round:", got)
		}
	}
}

// P19.1: Dice of all choices of small and of great numbers, and of drawn ones, as shares that are worked out.
func TestDiceAll(t *testing.T) {
	l := []int{0, 1, 2, 3, 4, 999, billion/2 - 1, billion / 2, billion - 2, billion - 1, billion}
	seed := uint64(191)
	holds := func(c, s, d, u int) {
		if got, want := similar.Dice(c, s, d, u), share(c, s).Cmp(share(d, u)); got != want {
			t.Errorf("Dice(%d, %d, %d, %d): %d, want %d", c, s, d, u, got, want)
		}
	}
	for _, c := range l {
		for _, s := range l {
			for _, d := range l {
				for _, u := range l {
					holds(c, s, d, u)
				}
			}
		}
	}
	for range 20000 {
		n := pick(&seed, 4, 30, 1000, billion+1)
		holds(draw(&seed, n), draw(&seed, n), draw(&seed, n), draw(&seed, n))
	}
}

// P19.1: Half: just s, one less, one more.
func TestHalf(t *testing.T) {
	if similar.Half(0, 0) || !similar.Half(1, 0) || similar.Half(0, 1) {
		t.Error("Half of noughts")
	}
	for _, c := range []int{1, 2, 3, 4, 100, billion / 4, billion} {
		for _, x := range []struct {
			sum  int
			want bool
		}{{4*c - 4, true}, {4*c - 1, true}, {4 * c, false}, {4*c + 1, false}, {4*c + 3, false}, {0, true}, {c, true}, {8 * c, false}} {
			if got := similar.Half(c, x.sum); got != x.want {
				t.Errorf("Half(%d, %d): %t", c, x.sum, got)
			}
		}
	}
}

// R5: Half of any numbers.
func TestHalfAny(t *testing.T) {
	l := []int{math.MinInt, math.MinInt + 1, math.MinInt / 4, math.MinInt/4 - 1, -5, -4, -3, -1, 0, 1, 3, 4, 5, math.MaxInt / 4, math.MaxInt/4 + 1, math.MaxInt - 1, math.MaxInt}
	for _, c := range l {
		for _, s := range l {
			four := new(big.Int).Mul(big.NewInt(4), big.NewInt(int64(c)))
			if got, want := similar.Half(c, s), four.Cmp(big.NewInt(int64(s))) > 0; got != want {
				t.Errorf("Half(%d, %d): %t", c, s, got)
			}
			// R1: what Dice says of such numbers is not asked, but it ends.
			similar.Dice(c, s, s, c)
		}
	}
}
