package num_test

import (
	"math"
	"math/big"
	"testing"

	"tidewait/api"
	"tidewait/num"
)

const (
	inf      = api.Inf
	least    = math.MinInt
	greatest = math.MaxInt
)

func TestFit(t *testing.T) {
	for _, c := range []struct{ a, want int }{
		// Ordinary ones.
		{1, 1}, {7, 7}, {api.Most, api.Most}, {api.Most + 1, api.Most + 1},
		// The edges.
		{0, 0}, {inf - 1, inf - 1}, {inf, inf},
		// Numbers that are none.
		{-1, 0}, {-inf, 0}, {least, 0}, {least + 1, 0},
		{inf + 1, inf}, {2 * inf, inf}, {greatest, inf},
	} {
		if got := num.Fit(c.a); got != c.want {
			t.Errorf("Fit(%d) is %d, not %d", c.a, got, c.want)
		}
	}
}

func TestPlus(t *testing.T) {
	for _, c := range []struct{ a, b, want int }{
		// Ordinary ones.
		{2, 3, 5}, {3, 2, 5}, {api.Most, 1, api.Most + 1}, {api.Most, api.Most, 2 * api.Most},
		// The edges: 0, and sums just below, at and above Inf.
		{0, 0, 0}, {0, 9, 9}, {9, 0, 9},
		{inf - 1, 0, inf - 1}, {inf - 2, 1, inf - 1}, {inf - 1, 1, inf}, {inf - 1, 2, inf},
		{inf / 2, inf/2 - 1, inf - 1}, {inf / 2, inf / 2, inf},
		{inf, 0, inf}, {0, inf, inf}, {inf, 1, inf}, {inf, inf, inf},
		// Numbers that are none.
		{-1, 5, 5}, {5, -1, 5}, {-1, -1, 0}, {least, least, 0}, {least, 5, 5}, {5, least, 5},
		{inf, -1, inf}, {-1, inf, inf}, {inf + 1, -1, inf}, {inf + 5, -9, inf},
		{inf + 1, 0, inf}, {0, inf + 1, inf},
		{greatest, 1, inf}, {1, greatest, inf}, {greatest, greatest, inf},
		{greatest, least, inf}, {least, greatest, inf},
	} {
		if got := num.Plus(c.a, c.b); got != c.want {
			t.Errorf("Plus(%d, %d) is %d, not %d", c.a, c.b, got, c.want)
		}
	}
}

func TestLess(t *testing.T) {
	for _, c := range []struct{ a, b, want int }{
		// Ordinary ones.
		{9, 4, 5}, {5, 1, 4}, {4, 9, 0}, {api.Most + 1, api.Most, 1},
		// The edges: 0, equal ones, and Inf on one side, or on both.
		{0, 0, 0}, {9, 0, 9}, {0, 9, 0}, {9, 9, 0}, {9, 8, 1}, {8, 9, 0},
		{inf - 1, 0, inf - 1}, {inf - 1, inf - 1, 0}, {inf - 1, inf - 2, 1},
		{inf, 0, inf}, {inf, 1, inf}, {inf, inf - 1, inf},
		{0, inf, 0}, {1, inf, 0}, {inf - 1, inf, 0}, {inf, inf, 0},
		// Numbers that are none.
		{-1, 0, 0}, {0, -1, 0}, {5, -1, 5}, {-1, -5, 0}, {-5, -1, 0},
		{5, least, 5}, {least, 5, 0}, {least, least, 0}, {0, least, 0},
		{inf + 1, 5, inf}, {inf + 1, inf - 1, inf}, {inf, least, inf},
		{5, inf + 1, 0}, {inf + 1, inf, 0}, {inf, inf + 1, 0}, {inf + 9, inf + 1, 0},
		{greatest, 0, inf}, {greatest, least, inf}, {greatest, greatest, 0}, {greatest, inf, 0},
		{least, greatest, 0}, {inf, greatest, 0},
	} {
		if got := num.Less(c.a, c.b); got != c.want {
			t.Errorf("Less(%d, %d) is %d, not %d", c.a, c.b, got, c.want)
		}
	}
}

func TestMulDiv(t *testing.T) {
	for _, c := range []struct{ a, b, c, want int }{
		// Ordinary ones; the first one is the document's.
		{7, 9, 4, 15}, {9, 7, 4, 15}, {6, 2, 4, 3}, {6, 2, 5, 2}, {1, 1, 2, 0}, {3, 5, 1, 15},
		// A factor of 0.
		{0, 0, 1, 0}, {0, 9, 4, 0}, {9, 0, 4, 0}, {0, inf, 1, 0}, {inf, 0, inf, 0},
		// A divisor of 0.
		{7, 9, 0, inf}, {0, 9, 0, inf}, {9, 0, 0, inf}, {0, 0, 0, inf}, {inf, inf, 0, inf},
		// Products just below, at and above Inf.
		{inf - 1, 1, 1, inf - 1}, {1, inf - 1, 1, inf - 1}, {inf, 1, 1, inf}, {1, inf, 1, inf},
		{1 << 30, 1 << 30, 1, inf}, {1<<30 + 1, 1<<30 - 1, 1, inf - 1}, {1<<30 + 1, 1 << 30, 1, inf},
		{inf, 2, 2, inf}, {inf, 2, 3, 768614336404564650}, {inf - 1, 2, 2, inf - 1},
		// Products that an int, or 64 bits, don't hold, and what comes of them.
		{1 << 32, 1 << 31, 1, inf}, {1 << 32, 1 << 31, 1 << 3, inf}, {1 << 32, 1 << 31, 1 << 4, 1 << 59},
		{1 << 32, 1 << 32, 1, inf}, {1 << 32, 1 << 32, 1 << 5, 1 << 59}, {1 << 32, 1 << 32, 3, inf},
		{api.Most, api.Most, api.Most, api.Most}, {api.Most, api.Most, 1 << 20, inf}, {api.Most, api.Most, 1 << 21, 1 << 59},
		{api.Most + 1, api.Most + 1, api.Most, api.Most + 2},
		// Inf on each side: as a number it is 2^60.
		{inf, inf, 1, inf}, {inf, inf, inf, inf}, {inf, inf, inf - 1, inf},
		{inf, 7, inf, 7}, {7, inf, inf, 7}, {inf - 1, 7, inf, 6}, {inf, 7, inf - 1, 7},
		{inf - 1, inf, inf, inf - 1}, {inf - 1, inf - 1, inf, inf - 2}, {inf - 1, inf - 1, inf - 1, inf - 1},
		{9, 1, inf, 0}, {inf - 1, 1, inf, 0},
		// Quotients of 2^63 and more, up to and beyond 2^64.
		{inf, 8, 1, inf}, {inf, 15, 1, inf}, {inf, 16, 1, inf}, {inf, 17, 1, inf}, {inf, 31, 2, inf},
		// Numbers that are none.
		{-1, 9, 4, 0}, {7, -1, 4, 0}, {-7, -9, 4, 0}, {7, 9, -1, inf}, {-7, 9, -4, inf}, {-7, -9, -4, inf},
		{least, 9, 4, 0}, {9, least, 4, 0}, {least, least, 4, 0}, {7, 9, least, inf}, {least, least, least, inf}, {least, 1, -1, inf},
		{inf + 1, 1, 1, inf}, {inf + 1, 7, inf, 7}, {7, inf + 1, inf, 7}, {inf, 7, inf + 1, 7}, {7, 9, inf + 1, 0},
		{greatest, 7, greatest, 7}, {7, greatest, inf, 7}, {greatest, greatest, 1, inf}, {greatest, greatest, greatest, inf},
		{greatest, 1, 2, inf / 2}, {1, greatest, 2, inf / 2}, {7, 9, greatest, 0}, {greatest, least, greatest, 0}, {greatest, greatest, least, inf},
	} {
		if got := num.MulDiv(c.a, c.b, c.c); got != c.want {
			t.Errorf("MulDiv(%d, %d, %d) is %d, not %d", c.a, c.b, c.c, got, c.want)
		}
	}
}

// TestByWholeNumbers holds all four against numbers that never go round, at all that lies near an edge.
func TestByWholeNumbers(t *testing.T) {
	edges := nearEdges()
	for _, a := range edges {
		same(t, "Fit", num.Fit(a), counts(whole(a)), a)
		for _, b := range edges {
			same(t, "Plus", num.Plus(a, b), wholePlus(a, b), a, b)
			same(t, "Less", num.Less(a, b), wholeLess(a, b), a, b)
			for _, c := range edges {
				same(t, "MulDiv", num.MulDiv(a, b, c), wholeMulDiv(a, b, c), a, b, c)
			}
		}
	}
}

// TestSumsHangOnWhatIsAdded: neither the order nor the grouping of a sum is to be seen in it.
func TestSumsHangOnWhatIsAdded(t *testing.T) {
	edges := nearEdges()
	for _, a := range edges {
		for _, b := range edges {
			same(t, "Plus turned round", num.Plus(b, a), big.NewInt(int64(num.Plus(a, b))), a, b)
			for _, c := range edges {
				left, right := num.Plus(num.Plus(a, b), c), num.Plus(a, num.Plus(b, c))
				same(t, "Plus grouped anew", right, big.NewInt(int64(left)), a, b, c)
			}
		}
	}
}

func nearEdges() []int {
	out := []int{least, least + 1, -inf - 1, -inf, -inf + 1, greatest - 1, greatest}
	for n := -3; n <= 10; n++ {
		out = append(out, n)
	}
	for _, shift := range []int{20, 30, 31, 32, 33, 40, 59, 60, 61, 62} {
		for d := -1; d <= 1; d++ {
			out = append(out, 1<<shift+d)
		}
	}
	return out
}

func same(t *testing.T, name string, got int, want *big.Int, args ...int) {
	t.Helper()
	if whole(got).Cmp(want) != 0 {
		t.Errorf("%s of %d is %d, not %d", name, args, got, want)
	}
}

func whole(a int) *big.Int { return big.NewInt(int64(a)) }

// counts tells what a counts as.
func counts(a *big.Int) *big.Int {
	if a.Sign() < 0 {
		return new(big.Int)
	}
	if a.Cmp(whole(inf)) > 0 {
		return whole(inf)
	}
	return a
}

func wholePlus(a, b int) *big.Int {
	return counts(new(big.Int).Add(counts(whole(a)), counts(whole(b))))
}

func wholeLess(a, b int) *big.Int {
	x, y := counts(whole(a)), counts(whole(b))
	switch {
	case y.Cmp(whole(inf)) == 0 || x.Cmp(y) < 0:
		return new(big.Int)
	case x.Cmp(whole(inf)) == 0:
		return x
	}
	return new(big.Int).Sub(x, y)
}

func wholeMulDiv(a, b, c int) *big.Int {
	through := counts(whole(c))
	if through.Sign() == 0 {
		return whole(inf)
	}
	product := new(big.Int).Mul(counts(whole(a)), counts(whole(b)))
	return counts(product.Quo(product, through))
}
