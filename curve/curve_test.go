package curve_test

import (
	"math"
	"math/big"
	"slices"
	"testing"

	"tidewait/api"
	"tidewait/curve"
)

const (
	least    = math.MinInt
	greatest = math.MaxInt
	most     = api.Most
	inf      = api.Inf
)

func row(l ...int) []int { return l }

func check(t *testing.T, got, want []int, name string, of ...[]int) {
	t.Helper()
	if !slices.Equal(got, want) {
		t.Errorf("%s of %v is %v, not %v", name, of, got, want)
	}
}

func checkBool(t *testing.T, got, want bool, name string, of ...[]int) {
	t.Helper()
	if got != want {
		t.Errorf("%s of %v is %v, not %v", name, of, got, want)
	}
}

func TestOneRow(t *testing.T) {
	for _, c := range []struct {
		f     []int
		right bool
		of    []int
		steps []int
	}{
		// Ordinary rows and curves.
		{row(2, 0, 3), false, row(0, 2, 2, 5), row(0, 3)},
		{row(0, 2, 2, 5), true, row(0, 0, 2, 4, 9), row(2, 0, 3)},
		{row(0, 1, 2, 3), true, row(0, 0, 1, 3, 6), row(1, 1, 1)},
		{row(0, 0, 0), true, row(0, 0, 0, 0), row(0, 0)},
		{row(0, 7), true, row(0, 0, 7), row(7)},
		// Rows of no number and of one.
		{nil, false, row(0), nil}, {row(), false, row(0), nil},
		{row(0), true, row(0, 0), nil}, {row(1), false, row(0, 1), nil}, {row(-1), false, row(0, 0), nil},
		{row(inf), false, row(0, inf), nil}, {row(least), false, row(0, 0), nil}, {row(greatest), false, row(0, inf), nil},
		// No curves: what begins above 0 or below it.
		{row(1, 2), false, row(0, 1, 3), row(1)}, {row(1, 1, 1), false, row(0, 1, 2, 3), row(0, 0)},
		{row(-1, 0), false, row(0, 0, 0), row(0)}, {row(-1, 2, 4), false, row(0, 0, 2, 6), row(2, 2)},
		{row(least, 0, 5), false, row(0, 0, 0, 5), row(0, 5)},
		// What falls: at once, at its end, in its midst, and below 0, where it would else count as 0.
		{row(0, -1), false, row(0, 0, 0), row(0)}, {row(0, -1, 0), false, row(0, 0, 0, 0), row(0, 0)},
		{row(0, least), false, row(0, 0, 0), row(0)},
		{row(0, 3, 2), false, row(0, 0, 3, 5), row(3, 0)}, {row(0, 5, 4, 9), false, row(0, 0, 5, 9, 18), row(5, 0, 5)},
		{row(3, 2, 1, 0), false, row(0, 3, 5, 6, 6), row(0, 0, 0)},
		// What goes above Inf, and what goes as far as it.
		{row(0, inf-1), true, row(0, 0, inf-1), row(inf - 1)},
		{row(0, inf), true, row(0, 0, inf), row(inf)}, {row(0, inf, inf), true, row(0, 0, inf, inf), row(inf, 0)},
		{row(0, inf+1), false, row(0, 0, inf), row(inf)}, {row(0, inf, inf+1), false, row(0, 0, inf, inf), row(inf, 0)},
		{row(0, greatest), false, row(0, 0, inf), row(inf)}, {row(0, inf+1, 1), false, row(0, 0, inf, inf), row(inf, 0)},
		{row(0, greatest, 1), false, row(0, 0, inf, inf), row(inf, 0)},
		// Numbers at every end, and steps from one to the other.
		{row(0, most), true, row(0, 0, most), row(most)}, {row(0, most, most+1), true, row(0, 0, most, 2*most+1), row(most, 1)},
		{row(most, inf), false, row(0, most, inf), row(inf)}, {row(inf, most), false, row(0, inf, inf), row(0)},
		{row(5, inf-1, inf), false, row(0, 5, inf, inf), row(inf-6, inf)},
		{row(least, greatest), false, row(0, 0, inf), row(inf)}, {row(greatest, least), false, row(0, inf, inf), row(0)},
		{row(-3, 4, -2, 6), false, row(0, 0, 4, 4, 10), row(4, 0, 6)},
		{row(greatest, greatest), false, row(0, inf, inf), row(0)}, {row(least, least), false, row(0, 0, 0), row(0)},
		// Sums that reach Inf, by one and just not.
		{row(inf-1, 1), false, row(0, inf-1, inf), row(0)}, {row(inf-2, 1), false, row(0, inf-2, inf-1), row(0)},
		{row(inf-1, 2, 3), false, row(0, inf-1, inf, inf), row(0, 1)}, {row(inf/2, inf/2), false, row(0, inf/2, inf), row(0)},
		{row(inf, 0, inf), false, row(0, inf, inf, inf), row(0, inf)},
	} {
		checkBool(t, curve.Right(c.f), c.right, "Right", c.f)
		check(t, curve.Of(c.f), c.of, "Of", c.f)
		check(t, curve.Steps(c.f), c.steps, "Steps", c.f)
	}
}

func TestAt(t *testing.T) {
	for _, c := range []struct {
		f       []int
		t, want int
	}{
		// Ordinary ticks: the first one, those in the midst, the last one.
		{row(0, 2, 2, 5), 0, 0}, {row(0, 2, 2, 5), 1, 2}, {row(0, 2, 2, 5), 2, 2}, {row(0, 2, 2, 5), 3, 5},
		{row(9, 8, 7), 0, 9}, {row(9, 8, 7), 1, 8}, {row(9, 8, 7), 2, 7},
		// Behind the last one, and below 0.
		{row(0, 2, 2, 5), 4, 5}, {row(0, 2, 2, 5), 9, 5}, {row(0, 2, 2, 5), greatest, 5}, {row(9, 8, 7), 3, 7},
		{row(9, 8, 7), -1, 0}, {row(9, 8, 7), least, 0}, {row(9, 8, 7), least + 1, 0}, {row(9, 8, 7), -3, 0},
		// Rows of no number and of one.
		{nil, 0, 0}, {nil, -1, 0}, {nil, 1, 0}, {nil, least, 0}, {nil, greatest, 0}, {row(), 0, 0},
		{row(7), 0, 7}, {row(7), 1, 7}, {row(7), greatest, 7}, {row(7), -1, 0}, {row(7), least, 0},
		// Numbers as chapter 1 has them.
		{row(-1, 3), 0, 0}, {row(3, -1), 1, 0}, {row(3, -1), 2, 0}, {row(3, least), 1, 0}, {row(least), 0, 0},
		{row(most), 0, most}, {row(0, inf), 1, inf}, {row(0, inf+1), 1, inf}, {row(0, greatest), 1, inf},
		{row(0, greatest), greatest, inf}, {row(greatest, 0), 0, inf}, {row(inf-1, 0), 0, inf - 1},
		{row(greatest), -1, 0}, {row(greatest), least, 0},
	} {
		if got := curve.At(c.f, c.t); got != c.want {
			t.Errorf("At of %v, %d is %d, not %d", c.f, c.t, got, c.want)
		}
	}
}

func TestTwoRows(t *testing.T) {
	for _, c := range []struct {
		f, g       []int
		in, back   bool
		lower, sum []int
	}{
		// Ordinary curves: one below the other, both the same, and two that cross.
		{row(0, 1, 2), row(0, 2, 2), true, false, row(0, 1, 2), row(0, 3, 4)},
		{row(0, 2, 2, 5), row(0, 2, 2, 5), true, true, row(0, 2, 2, 5), row(0, 4, 4, 10)},
		{row(0, 3, 3), row(0, 1, 9), false, false, row(0, 1, 3), row(0, 4, 12)},
		// Above in one place alone: the first one, one in the midst, the last one.
		{row(1, 2, 3), row(0, 2, 3), false, true, row(0, 2, 3), row(1, 4, 6)},
		{row(0, 3, 3), row(0, 2, 3), false, true, row(0, 2, 3), row(0, 5, 6)},
		{row(0, 2, 4), row(0, 2, 3), false, true, row(0, 2, 3), row(0, 4, 7)},
		// Rows that are no curves: that begin above 0, that fall.
		{row(5, 3, 1), row(6, 2), false, false, row(5, 2), row(11, 5)},
		// Of different lengths: what one alone has does not matter.
		{row(0, 2, 2, 5), row(0, 3), true, false, row(0, 2), row(0, 5)},
		{row(0, 2, 99), row(0, 2), true, true, row(0, 2), row(0, 4)},
		{row(0, 9, 9), row(0), true, true, row(0), row(0)},
		{row(4), row(3, 0, 0), false, true, row(3), row(7)},
		// One row, or both of them, of no numbers.
		{nil, nil, true, true, nil, nil}, {row(), nil, true, true, nil, nil},
		{nil, row(0), true, true, nil, nil}, {row(), row(5, 3), true, true, nil, nil},
		{nil, row(greatest, least), true, true, nil, nil},
		// Rows of one number.
		{row(0), row(0), true, true, row(0), row(0)}, {row(1), row(0), false, true, row(0), row(1)},
		// Numbers below 0 count as 0.
		{row(-1), row(0), true, true, row(0), row(0)}, {row(-1), row(-2), true, true, row(0), row(0)},
		{row(least), row(-1), true, true, row(0), row(0)}, {row(least), row(least), true, true, row(0), row(0)},
		{row(-5), row(3), true, false, row(0), row(3)}, {row(least), row(most), true, false, row(0), row(most)},
		{row(0, -1, 7), row(0, 0, 7), true, true, row(0, 0, 7), row(0, 0, 14)},
		// Numbers above Inf count as Inf.
		{row(inf), row(inf), true, true, row(inf), row(inf)}, {row(inf + 1), row(inf), true, true, row(inf), row(inf)},
		{row(greatest), row(inf + 1), true, true, row(inf), row(inf)}, {row(greatest), row(greatest), true, true, row(inf), row(inf)},
		{row(inf), row(inf - 1), false, true, row(inf - 1), row(inf)}, {row(greatest), row(inf - 1), false, true, row(inf - 1), row(inf)},
		{row(greatest), row(least), false, true, row(0), row(inf)}, {row(greatest), row(0), false, true, row(0), row(inf)},
		{row(most), row(most), true, true, row(most), row(2 * most)}, {row(most), row(inf), true, false, row(most), row(inf)},
		// Sums that reach Inf, and that just do not.
		{row(inf - 1), row(1), false, true, row(1), row(inf)}, {row(inf - 2), row(1), false, true, row(1), row(inf - 1)},
		{row(inf - 1), row(2), false, true, row(2), row(inf)}, {row(inf / 2), row(inf / 2), true, true, row(inf / 2), row(inf)},
		{row(0, inf, 3), row(0, 1, 4), false, false, row(0, 1, 3), row(0, inf, 7)},
	} {
		checkBool(t, curve.Within(c.f, c.g), c.in, "Within", c.f, c.g)
		checkBool(t, curve.Within(c.g, c.f), c.back, "Within", c.g, c.f)
		check(t, curve.Lower(c.f, c.g), c.lower, "Lower", c.f, c.g)
		check(t, curve.Lower(c.g, c.f), c.lower, "Lower", c.g, c.f)
		check(t, curve.Sum(c.f, c.g), c.sum, "Sum", c.f, c.g)
		check(t, curve.Sum(c.g, c.f), c.sum, "Sum", c.g, c.f)
	}
}

// rows gives every row of up to longest numbers of values.
func rows(longest int, values ...int) func(yield func([]int) bool) {
	return func(yield func([]int) bool) {
		count := 1
		for length := range longest + 1 {
			for code := range count {
				l := make([]int, length)
				for i := range l {
					l[i] = values[code%len(values)]
					code /= len(values)
				}
				if !yield(l) {
					return
				}
			}
			count *= len(values)
		}
	}
}

func counts(number int) int {
	switch {
	case number < 0:
		return 0
	case number > inf:
		return inf
	}
	return number
}

// total adds in whole numbers without end, and holds them against Inf only where they are told.
func total(l ...int) int {
	sum := new(big.Int)
	for _, number := range l {
		sum.Add(sum, big.NewInt(int64(counts(number))))
	}
	if sum.Cmp(big.NewInt(inf)) > 0 {
		return inf
	}
	return int(sum.Int64())
}

func rightByWords(f []int) bool {
	for i, number := range f {
		if number > inf || i == 0 && number != 0 || i > 0 && number < f[i-1] {
			return false
		}
	}
	return len(f) > 0
}

func more(a, b int) int {
	a, b = counts(a), counts(b)
	switch {
	case b == inf || a < b:
		return 0
	case a == inf:
		return inf
	}
	return a - b
}

func TestAllShortRows(t *testing.T) {
	for f := range rows(4, least, -1, 0, 1, 3, most, inf-1, inf, inf+1, greatest) {
		of, steps := row(0), row()
		for i := range f {
			of = append(of, total(f[:i+1]...))
			if i > 0 {
				steps = append(steps, more(f[i], f[i-1]))
			}
			if got := curve.At(f, i); got != counts(f[i]) {
				t.Errorf("At of %v, %d is %d", f, i, got)
			}
		}
		check(t, curve.Of(f), of, "Of", f)
		checkBool(t, curve.Right(f), rightByWords(f), "Right", f)
		check(t, curve.Steps(f), steps, "Steps", f)
		checkBool(t, curve.Right(of), true, "Right", of)
	}
}

func TestAllShortPairs(t *testing.T) {
	values := row(least, -1, 0, 1, most, inf-1, inf, greatest)
	for f := range rows(3, values...) {
		for g := range rows(2, values...) {
			within, lower, sum := true, row(), row()
			for i := range min(len(f), len(g)) {
				a, b := counts(f[i]), counts(g[i])
				within = within && a <= b
				lower = append(lower, min(a, b))
				sum = append(sum, total(a, b))
			}
			checkBool(t, curve.Within(f, g), within, "Within", f, g)
			check(t, curve.Lower(f, g), lower, "Lower", f, g)
			check(t, curve.Sum(f, g), sum, "Sum", f, g)
		}
	}
}

// Steps takes apart what Of has put together, and the sum of two curves is the curve of the sums of their steps.
func TestLongRow(t *testing.T) {
	a, b, both := make([]int, 1<<16), make([]int, 1<<16), make([]int, 1<<16)
	for i := range a {
		a[i], b[i] = i*i%977, i*7%31
		both[i] = a[i] + b[i]
	}
	f, g := curve.Of(a), curve.Of(b)
	check(t, curve.Steps(f), a, "Steps")
	check(t, curve.Sum(f, g), curve.Of(both), "Sum")
	checkBool(t, curve.Within(curve.Lower(f, g), f), true, "Within")
	checkBool(t, curve.Within(f, curve.Sum(f, g)), true, "Within")
	checkBool(t, curve.Right(f), true, "Right")
	f[len(f)-1] = 0
	checkBool(t, curve.Right(f), false, "Right")
}

// Neither the rows nor the room behind them change, and what is answered is the caller's own.
func TestHandedIn(t *testing.T) {
	was, other := row(0, -3, greatest, 9, 1), row(2, 5, inf, 1, 4)
	f, g := slices.Clone(was), slices.Clone(other)
	answers := [][]int{curve.Of(f[:3]), curve.Steps(f[:3]), curve.Lower(f[:3], g[:4]), curve.Sum(f[:3], g[:4]), curve.Lower(g[:3], g[:3])}
	curve.Right(f[:3])
	curve.At(f[:3], 4)
	curve.Within(f[:3], g[:4])
	check(t, f, was, "what was handed in first")
	check(t, g, other, "what was handed in next")
	before := make([][]int, len(answers))
	for i, answer := range answers {
		before[i] = slices.Clone(answer)
	}
	clear(f)
	clear(g)
	for i, answer := range answers {
		check(t, answer, before[i], "what was answered")
	}
}
