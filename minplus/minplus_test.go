package minplus_test

import (
	"math"
	"slices"
	"testing"

	"tidewait/api"
	"tidewait/minplus"
)

const (
	least    = math.MinInt
	greatest = math.MaxInt
	most     = api.Most
	inf      = api.Inf
)

func row(l ...int) []int { return l }

func check(t *testing.T, got, want []int, name string, of ...[]int) {
	t.Helper()
	if !slices.Equal(got, want) {
		t.Errorf("%s of %v is %v, not %v", name, of, got, want)
	}
}

func checkBool(t *testing.T, got, want bool, name string, of ...[]int) {
	t.Helper()
	if got != want {
		t.Errorf("%s of %v is %v, not %v", name, of, got, want)
	}
}

func TestUnit(t *testing.T) {
	for _, c := range []struct{ n, length int }{
		{3, 3}, {17, 17}, {0, 0}, {1, 1}, {2, 2},
		{-1, 0}, {-300, 0}, {least, 0}, {least + 1, 0},
		{api.MaxLength - 1, api.MaxLength - 1}, {api.MaxLength, api.MaxLength}, {api.MaxLength + 1, api.MaxLength},
		{999, api.MaxLength}, {inf, api.MaxLength}, {greatest, api.MaxLength},
	} {
		got := minplus.Unit(c.n)
		if len(got) != c.length {
			t.Errorf("Unit of %d has %d numbers, not %d", c.n, len(got), c.length)
		}
		for tick, number := range got {
			if tick == 0 && number != 0 || tick > 0 && number != inf {
				t.Errorf("Unit of %d has %d at tick %d", c.n, number, tick)
			}
		}
	}
}

func TestOneRow(t *testing.T) {
	for _, c := range []struct {
		f     []int
		parts bool
		close []int
	}{
		// Ordinary curves that are no more than their parts, and that are.
		{row(0, 3, 3), true, row(0, 3, 3)}, {row(0, 2, 4, 6), true, row(0, 2, 4, 6)}, {row(0, 5, 7, 9), true, row(0, 5, 7, 9)},
		{row(0, 0, 0), true, row(0, 0, 0)}, {row(0, 1, 9), false, row(0, 1, 2)}, {row(0, 0, 2, 5), false, row(0, 0, 0, 0)},
		{row(0, 2, 4), true, row(0, 2, 4)}, {row(0, 2, 5), false, row(0, 2, 4)}, {row(0, 2, 3), true, row(0, 2, 3)},
		// Too much at the last tick alone, by one: by its halves, and by parts of which one is longer.
		{row(0, 3, 5, 8), true, row(0, 3, 5, 8)}, {row(0, 3, 5, 9), false, row(0, 3, 5, 8)},
		{row(0, 9, 4, 9, 8), true, row(0, 9, 4, 9, 8)}, {row(0, 9, 4, 9, 9), false, row(0, 9, 4, 9, 8)},
		{row(0, 2, 4, 5, 7), true, row(0, 2, 4, 5, 7)}, {row(0, 2, 4, 5, 8), false, row(0, 2, 4, 5, 7)},
		// More than two ticks together come to less than one, and than any two of f itself.
		{row(0, 1, 9, 9), false, row(0, 1, 2, 3)}, {row(0, 1, 9, 9, 9), false, row(0, 1, 2, 3, 4)},
		{row(0, 1, 9, 20, 50, 7), false, row(0, 1, 2, 3, 4, 5)}, {row(0, 9, 2, 50, 50, 50, 50), false, row(0, 9, 2, 11, 4, 13, 6)},
		{row(0, 9, 9, 2, 40, 40, 40, 40, 40, 40), false, row(0, 9, 9, 2, 11, 11, 4, 13, 13, 6)},
		{row(0, 10, 3, 4, 40, 40, 40, 40), false, row(0, 10, 3, 4, 6, 7, 8, 10)},
		// Rows of no number and of one.
		{nil, true, nil}, {row(), true, nil},
		{row(0), true, row(0)}, {row(1), false, row(0)}, {row(4), false, row(0)}, {row(-1), true, row(0)}, {row(most), false, row(0)},
		{row(inf), false, row(0)}, {row(inf + 1), false, row(0)}, {row(least), true, row(0)}, {row(greatest), false, row(0)},
		// No curves: what begins above 0 or below it.
		{row(4, 2, 9, 1), false, row(0, 2, 4, 1)}, {row(1, 2, 4), false, row(0, 2, 4)}, {row(5, 5, 5), false, row(0, 5, 5)},
		{row(inf, 3, 3), false, row(0, 3, 3)}, {row(greatest, 3, 9), false, row(0, 3, 6)},
		{row(-1, 2, 4), true, row(0, 2, 4)}, {row(-1, 2, 5), false, row(0, 2, 4)}, {row(least, 2, 4), true, row(0, 2, 4)},
		{row(-5, 3, 3), true, row(0, 3, 3)}, {row(least, greatest, 7), true, row(0, inf, 7)},
		// What falls, at once, at its end, below 0.
		{row(0, 5, 3, 20, 4), false, row(0, 5, 3, 8, 4)}, {row(0, 5, 3), true, row(0, 5, 3)}, {row(3, 2, 1, 0), false, row(0, 2, 1, 0)},
		{row(0, 7, 0), true, row(0, 7, 0)}, {row(0, 7, 0, 7, 0), true, row(0, 7, 0, 7, 0)}, {row(0, 7, 0, 8, 0), false, row(0, 7, 0, 7, 0)},
		{row(0, 7, -1, 7), true, row(0, 7, 0, 7)}, {row(0, -1), true, row(0, 0)}, {row(0, -1, 0), true, row(0, 0, 0)},
		{row(0, -1, 1), false, row(0, 0, 0)}, {row(0, least, -1), true, row(0, 0, 0)}, {row(0, 3, least), true, row(0, 3, 0)},
		{row(0, 3, -9, 3), true, row(0, 3, 0, 3)}, {row(0, -4, 3), false, row(0, 0, 0)},
		// Numbers at every end.
		{row(0, most), true, row(0, most)}, {row(0, most, 2*most), true, row(0, most, 2*most)}, {row(0, most, 2*most+1), false, row(0, most, 2*most)},
		{row(0, most, inf), false, row(0, most, 2*most)}, {row(0, most, greatest, greatest), false, row(0, most, 2*most, 3*most)},
		{row(0, inf), true, row(0, inf)}, {row(0, inf, inf), true, row(0, inf, inf)}, {row(0, inf, 5), true, row(0, inf, 5)},
		{row(0, inf, 5, inf), true, row(0, inf, 5, inf)}, {row(0, inf, 5, inf, inf), false, row(0, inf, 5, inf, 10)},
		{row(0, 1, inf, inf), false, row(0, 1, 2, 3)},
		{row(0, inf+1), true, row(0, inf)}, {row(0, greatest), true, row(0, inf)}, {row(0, greatest, inf+1), true, row(0, inf, inf)},
		{row(0, inf, greatest), true, row(0, inf, inf)}, {row(0, greatest, greatest, 1), true, row(0, inf, inf, 1)},
		{row(-1, 1<<62, 0), true, row(0, inf, 0)},
		// Sums that reach Inf, by one and just not.
		{row(0, inf/2, inf), true, row(0, inf/2, inf)}, {row(0, inf/2, greatest), true, row(0, inf/2, inf)},
		{row(0, inf/2-1, inf-2), true, row(0, inf/2-1, inf-2)}, {row(0, inf/2-1, inf-1), false, row(0, inf/2-1, inf-2)},
		{row(0, inf/2-1, inf), false, row(0, inf/2-1, inf-2)}, {row(0, inf/2+1, inf), true, row(0, inf/2+1, inf)},
		{row(0, inf-1, inf), true, row(0, inf-1, inf)}, {row(0, inf-1, greatest, greatest), true, row(0, inf-1, inf, inf)},
		{row(0, inf-1, 1, inf), true, row(0, inf-1, 1, inf)}, {row(0, inf-2, 1, inf), false, row(0, inf-2, 1, inf-1)},
		{row(0, inf/4, inf, inf, inf, inf), false, row(0, inf/4, inf/2, inf/4*3, inf, inf)},
	} {
		checkBool(t, minplus.Parts(c.f), c.parts, "Parts", c.f)
		check(t, minplus.Close(c.f), c.close, "Close", c.f)
		checkBool(t, minplus.Parts(c.close), true, "Parts", c.close)
		check(t, minplus.Close(c.close), c.close, "Close", c.close)
	}
}

func TestTwoRows(t *testing.T) {
	for _, c := range []struct{ f, g, conv, over, back []int }{
		// Ordinary curves, and one with itself.
		{row(0, 3, 3), row(0, 1, 9), row(0, 1, 3), row(2, 3, 3), row(6, 6, 9)},
		{row(0, 2, 4, 6), row(0, 5, 6, 7), row(0, 2, 4, 6), row(0, 2, 4, 6), row(3, 5, 6, 7)},
		{row(0, 1, 9), row(0, 1, 9), row(0, 1, 2), row(0, 8, 9), row(0, 8, 9)},
		{row(0, 0, 4, 8), row(0, 3, 6, 9), row(0, 0, 3, 6), row(0, 2, 5, 8), row(3, 6, 9, 9)},
		// The least sum in each of its places, and the most that is over at the last tick that both have.
		{row(0, 9, 9), row(0, 9, 1), row(0, 9, 1), row(8, 9, 9), row(0, 9, 1)}, {row(3, 1, 9), row(3, 1, 9), row(6, 4, 2), row(0, 8, 6), row(0, 8, 6)},
		{row(1, 2, 3, 9), row(1, 2, 3, 4), row(2, 3, 4, 5), row(5, 6, 7, 8), row(0, 1, 2, 3)},
		// Rows that begin above 0, that fall.
		{row(4), row(1), row(5), row(3), row(0)}, {row(4, 2, 9, 1), row(0, 2, 4, 6), row(4, 2, 4, 1), row(5, 7, 9, 1), row(5, 2, 4, 2)},
		{row(5, 3, 1), row(6, 2, 8), row(11, 7, 5), row(1, 0, 0), row(7, 5, 3)}, {row(7, 5, 3, 1), row(7, 5, 3, 1), row(14, 12, 10, 8), row(0, 0, 0, 0), row(0, 0, 0, 0)},
		// Of different lengths: a sum as far as both have numbers, what is over as long as the first one.
		{row(0, 2, 4, 6), row(0, 1), row(0, 1), row(1, 3, 5, 6), row(0, 1)}, {row(4, 2, 9, 1), row(0), row(4), row(4, 2, 9, 1), row(0)},
		{row(0, 5, 3, 20, 4), row(0, 3, 3), row(0, 3, 3), row(2, 17, 17, 20, 4), row(0, 3, 3)},
		{row(0, 1, 1, 1), row(9), row(9), row(0, 0, 0, 0), row(9)}, {row(3), row(5, 0, 0), row(8), row(0), row(2, 0, 0)},
		// One row, or both of them, of no numbers.
		{nil, nil, nil, nil, nil}, {row(), nil, nil, nil, nil}, {nil, row(0), nil, nil, row(0)}, {row(), row(5, 3), nil, nil, row(0, 0)},
		{nil, row(greatest, least, inf), nil, nil, row(0, 0, 0)},
		// Rows of one number.
		{row(0), row(0), row(0), row(0), row(0)}, {row(7), row(0), row(7), row(7), row(0)}, {row(7), row(7), row(14), row(0), row(0)},
		// Numbers below 0 count as 0.
		{row(-1), row(-1), row(0), row(0), row(0)}, {row(-4), row(3), row(3), row(0), row(3)}, {row(least), row(least), row(0), row(0), row(0)},
		{row(least), row(greatest), row(inf), row(0), row(inf)}, {row(-2, 3, -4), row(0, -1, 5), row(0, 0, 0), row(3, 3, 0), row(5, 2, 5)},
		{row(0, least, 6), row(-9, 2, 2), row(0, 0, 2), row(4, 4, 6), row(2, 2, 2)}, {row(3, -1), row(-1, 3), row(3, 0), row(3, 0), row(3, 0)},
		// Numbers at Most, at Inf and above it: nothing is more than Inf, and Inf is by Inf more than all else.
		{row(most), row(most), row(2 * most), row(0), row(0)}, {row(most), row(inf), row(inf), row(0), row(inf)},
		{row(inf), row(inf), row(inf), row(0), row(0)}, {row(greatest), row(inf), row(inf), row(0), row(0)}, {row(inf + 1), row(greatest), row(inf), row(0), row(0)},
		{row(inf), row(inf - 1), row(inf), row(inf), row(0)}, {row(greatest), row(inf - 1), row(inf), row(inf), row(0)}, {row(greatest), row(0), row(inf), row(inf), row(0)},
		{row(0, inf, 5), row(0, inf, 5), row(0, inf, 5), row(0, inf, 5), row(0, inf, 5)}, {row(0, inf, 5), row(-1, 1<<62, 0), row(0, inf, 0), row(5, inf, 5), row(0, inf, 0)},
		{row(0, inf, inf), row(0, 4, inf), row(0, 4, inf), row(inf, inf, inf), row(0, 4, inf)}, {row(0, greatest, greatest), row(6, 4, 2), row(6, 4, 2), row(inf, inf, inf), row(6, 4, 2)},
		// Sums that reach Inf, and that just do not.
		{row(inf - 1), row(1), row(inf), row(inf - 2), row(0)}, {row(inf - 2), row(1), row(inf - 1), row(inf - 3), row(0)}, {row(inf / 2), row(inf / 2), row(inf), row(0), row(0)},
		{row(inf - 1), row(greatest), row(inf), row(0), row(inf)}, {row(inf-1, inf-1), row(2, 1), row(inf, inf), row(inf-2, inf-3), row(0, 0)},
		{row(inf-1, 0), row(2, 1), row(inf, 2), row(inf-3, 0), row(1, 0)},
	} {
		check(t, minplus.Conv(c.f, c.g), c.conv, "Conv", c.f, c.g)
		check(t, minplus.Conv(c.g, c.f), c.conv, "Conv", c.g, c.f)
		check(t, minplus.Over(c.f, c.g), c.over, "Over", c.f, c.g)
		check(t, minplus.Over(c.g, c.f), c.back, "Over", c.g, c.f)
	}
}

// rows gives every row of up to longest numbers of values.
func rows(longest int, values ...int) func(yield func([]int) bool) {
	return func(yield func([]int) bool) {
		count := 1
		for length := range longest + 1 {
			for code := range count {
				l := make([]int, length)
				for i := range l {
					l[i] = values[code%len(values)]
					code /= len(values)
				}
				if !yield(l) {
					return
				}
			}
			count *= len(values)
		}
	}
}

func counts(number int) int {
	switch {
	case number < 0:
		return 0
	case number > inf:
		return inf
	}
	return number
}

// total goes down from Inf instead of up to it, so that it can't go round.
func total(l ...int) int {
	room := inf
	for _, number := range l {
		if counts(number) >= room {
			return inf
		}
		room -= counts(number)
	}
	return inf - room
}

func more(a, b int) int {
	a, b = counts(a), counts(b)
	switch {
	case b == inf || a < b:
		return 0
	case a == inf:
		return inf
	}
	return a - b
}

func convByWords(f, g []int) []int {
	out := row()
	for t := range f {
		if t >= len(g) {
			break
		}
		sums := row()
		for s := 0; s <= t; s++ {
			sums = append(sums, total(f[s], g[t-s]))
		}
		out = append(out, slices.Min(sums))
	}
	return out
}

func overByWords(f, g []int) []int {
	out := row()
	for t := range f {
		overs := row(0)
		for u := 0; t+u < len(f) && u < len(g); u++ {
			overs = append(overs, more(f[t+u], g[u]))
		}
		out = append(out, slices.Max(overs))
	}
	return out
}

func partsByWords(f []int) bool {
	for t := range f {
		for s := 0; s <= t; s++ {
			if counts(f[t]) > total(f[s], f[t-s]) {
				return false
			}
		}
	}
	return len(f) == 0 || counts(f[0]) == 0
}

// leastWay goes every way from tick 0 to t, by steps of any length, and tells the least sum of f at these.
func leastWay(f []int, t int, steps []int) int {
	if t == 0 {
		return total(steps...)
	}
	way := inf
	for s := 1; s <= t; s++ {
		way = min(way, leastWay(f, t-s, append(steps, f[s])))
	}
	return way
}

func TestAllShortRows(t *testing.T) {
	for f := range rows(5, least, -1, 0, 1, 3, most, inf/2, inf-1, inf, greatest) {
		want := row()
		for tick := range f {
			want = append(want, leastWay(f, tick, nil))
		}
		check(t, minplus.Close(f), want, "Close", f)
		checkBool(t, minplus.Parts(f), partsByWords(f), "Parts", f)
		checkBool(t, minplus.Parts(want), true, "Parts", want)
	}
}

func TestAllShortPairs(t *testing.T) {
	values := row(least, -1, 0, 1, most, inf-1, inf, greatest)
	for f := range rows(3, values...) {
		for g := range rows(3, values...) {
			check(t, minplus.Conv(f, g), convByWords(f, g), "Conv", f, g)
			check(t, minplus.Over(f, g), overByWords(f, g), "Over", f, g)
		}
	}
}

func nowhereAbove(f, g []int, from int) bool {
	for t := from; t < len(f); t++ {
		if f[t] > g[t] {
			return false
		}
	}
	return true
}

// Of all rows for which Parts holds, and that are nowhere above f but at tick 0, Close is one that is above all others.
func TestCloseIsGreatest(t *testing.T) {
	values := row(0, 1, 2, 3, inf)
	for f := range rows(4, values...) {
		got := minplus.Close(f)
		if !partsByWords(got) || len(got) != len(f) || !nowhereAbove(got, f, 1) {
			t.Errorf("Close of %v is %v", f, got)
		}
		for other := range rows(4, values...) {
			if len(other) == len(f) && partsByWords(other) && nowhereAbove(other, f, 1) && !nowhereAbove(other, got, 0) {
				t.Errorf("Close of %v is %v, but there is %v", f, got, other)
			}
		}
	}
}

// Least sums are like products: Unit is their one, and no matter which two of three come first.
func TestLikeProducts(t *testing.T) {
	for f := range rows(3, 0, 2, 5, inf) {
		unit := minplus.Unit(len(f))
		check(t, minplus.Conv(f, unit), f, "Conv", f, unit)
		check(t, minplus.Conv(unit, f), f, "Conv", unit, f)
		check(t, minplus.Over(f, unit), f, "Over", f, unit)
		for g := range rows(3, 0, 1, 4, inf) {
			for h := range rows(2, 0, 3, 7, inf) {
				check(t, minplus.Conv(minplus.Conv(f, g), h), minplus.Conv(f, minplus.Conv(g, h)), "Conv", f, g, h)
			}
		}
	}
}

// What is over is what lacks: h and g together are nowhere below f, if h is nowhere below what f is over g, and else not.
func TestOverIsWhatLacks(t *testing.T) {
	for f := range rows(3, 0, 2, 5, inf) {
		for g := range rows(3, 0, 1, 4, inf) {
			for h := range rows(3, 0, 3, 5, inf) {
				if len(f) != len(g) || len(f) != len(h) {
					continue
				}
				enough := nowhereAbove(f, minplus.Conv(h, g), 0)
				if over := minplus.Over(f, g); nowhereAbove(over, h, 0) != enough {
					t.Errorf("Over of %v and %v is %v, beside %v", f, g, over, h)
				}
			}
		}
	}
}

func TestLongRow(t *testing.T) {
	const length = 3000
	line, bent, steep := make([]int, length), make([]int, length), make([]int, length)
	for i := range line {
		line[i] = 3 * i
		bent[i] = min(5*i, 2*i+90)
		steep[i] = i * i
	}
	check(t, minplus.Conv(line, bent), convByWords(line, bent), "Conv")
	check(t, minplus.Over(line, bent), overByWords(line, bent), "Over")
	check(t, minplus.Over(bent, line[:7]), overByWords(bent, line[:7]), "Over")
	checkBool(t, minplus.Parts(bent), true, "Parts")
	checkBool(t, minplus.Parts(steep), false, "Parts")
	for i := range steep {
		line[i] = i
	}
	check(t, minplus.Close(steep), line, "Close")
	bent[length-1] += 3
	checkBool(t, minplus.Parts(bent), true, "Parts")
	bent[length-1]++
	checkBool(t, minplus.Parts(bent), false, "Parts")
}

// Neither the rows nor the room behind them change or count, and what is answered is the caller's own.
func TestHandedIn(t *testing.T) {
	was, other := row(0, -3, greatest, 9, 1), row(2, 5, inf, 1, 4)
	f, g := slices.Clone(was), slices.Clone(other)
	answers := [][]int{
		minplus.Unit(4), minplus.Conv(f[:3], g[:4]), minplus.Conv(f[:3], f[:3]), minplus.Over(f[:3], g[:4]), minplus.Over(g[:4], f[:3]),
		minplus.Close(f[:3]), minplus.Close(g[:1]),
	}
	minplus.Parts(f[:3])
	check(t, f, was, "what was handed in first")
	check(t, g, other, "what was handed in next")
	before := make([][]int, len(answers))
	for i, answer := range answers {
		before[i] = slices.Clone(answer)
	}
	clear(f)
	clear(g)
	for i, answer := range answers {
		check(t, answer, before[i], "what was answered")
	}
	clear(minplus.Unit(4))
	check(t, minplus.Unit(4), row(0, inf, inf, inf), "Unit")
}
