package bound_test

import (
	"math"
	"slices"
	"testing"

	"tidewait/api"
	"tidewait/bound"
	"tidewait/bucket"
	"tidewait/curve"
	"tidewait/queue"
)

const (
	least    = math.MinInt
	greatest = math.MaxInt
	most     = api.Most
	inf      = api.Inf
	full     = api.MaxLength
	// never stands in tables for what Far answers beside false.
	never = -1
)

func row(l ...int) []int { return l }

// repeat puts so many numbers behind what stands ahead of them.
func repeat(count, number int, ahead ...int) []int {
	return append(ahead, slices.Repeat(row(number), count)...)
}

func check(t *testing.T, got, want []int, name string, of ...any) {
	t.Helper()
	if !slices.Equal(got, want) {
		t.Errorf("%s of %v is %v, not %v", name, of, got, want)
	}
}

func checkHigh(t *testing.T, f, g []int, want int) {
	t.Helper()
	if got := bound.High(f, g); got != want {
		t.Errorf("High of %v and %v is %d, not %d", f, g, got, want)
	}
}

func checkFar(t *testing.T, f, g []int, want int) {
	t.Helper()
	got, ok := bound.Far(f, g)
	if ok != (want != never) || got != max(want, 0) {
		t.Errorf("Far of %v and %v is %d, %v, not %d (or not at all, if below 0)", f, g, got, ok, want)
	}
}

func checkKeeps(t *testing.T, f, to []int, want bool) {
	t.Helper()
	if got := bound.Keeps(f, to); got != want {
		t.Errorf("Keeps of %v to %v is %v, not %v", f, to, got, want)
	}
}

func TestHigh(t *testing.T) {
	for _, c := range []struct {
		f, g       []int
		want, back int
	}{
		// Ordinary rows, and a row beside itself.
		{row(0, 3, 9), row(0, 3, 4), 5, 0}, {row(0, 4, 6, 8), row(0, 0, 3, 6), 4, 0}, {row(0, 5, 6, 7), row(0, 2, 4, 9), 3, 2},
		{row(0, 3, 4), row(0, 3, 4), 0, 0}, {row(7, 2, 5), row(1, 1, 9), 6, 4},
		// No rows.
		{nil, nil, 0, 0}, {row(), nil, 0, 0}, {nil, row(9, 9), 0, 0}, {row(), row(inf), 0, 0}, {nil, row(greatest, least), 0, 0},
		// One number each.
		{row(0), row(0), 0, 0}, {row(5), row(0), 5, 0}, {row(5), row(4), 1, 0}, {row(5), row(5), 0, 0},
		// What the longer row has behind the other's end does not count, at once or later.
		{row(0, 3, 9), row(0, 1), 2, 0}, {row(0, 1, 2, 50, 99), row(0, 1, 1), 1, 0}, {row(3), row(0, 0, 9), 3, 0}, {row(0, 2, 9), row(1), 0, 1},
		{row(0, 0, inf), row(0, 0), 0, 0}, {row(4, 4, greatest), row(5, 2), 2, 1},
		// Nowhere above the other: always just as much, always less, and in turns.
		{row(0, 1, 2), row(1, 2, 3), 0, 1}, {row(9, 9, 9), row(9, 9, 9), 0, 0}, {row(0, 4, 4, 9), row(0, 4, 5, 9), 0, 1},
		// Above it at one tick alone: the first, the last, and one between.
		{row(1, 5, 5), row(0, 5, 6), 1, 1}, {row(8, 0, 0), row(1, 9, 3), 7, 9}, {row(0, 5, 7), row(3, 5, 6), 1, 3}, {row(0, 0, 0, 9), row(1, 1, 1, 2), 7, 1},
		{row(0, 9, 5), row(2, 3, 5), 6, 2}, {row(0, 1, 1, 2), row(0, 1, 1, 1), 1, 0}, {row(1, 1, 1, 1), row(0, 1, 1, 1), 1, 0},
		// The most of all, not the first, the last or the sum.
		{row(2, 9, 4), row(0, 0, 0), 9, 0}, {row(9, 2, 4), row(0, 0, 0), 9, 0}, {row(3, 3, 3), row(0, 0, 0), 3, 0}, {row(1, 2, 3), row(1, 1, 1), 2, 0},
		// Numbers of 0, of Most and above it.
		{row(0, 0), row(0, 0), 0, 0}, {row(most), row(0), most, 0}, {row(most), row(most), 0, 0}, {row(most), row(most - 1), 1, 0},
		{row(most + 1), row(0), most + 1, 0}, {row(most + 1), row(most), 1, 0}, {row(3 * most), row(most), 2 * most, 0}, {row(0, 2*most), row(1, most), most, 1},
		{row(inf - 1), row(0), inf - 1, 0}, {row(inf - 1), row(inf - 2), 1, 0}, {row(inf - 1), row(most), inf - 1 - most, 0},
		// Inf in either row: nothing is above it, and it is by Inf above all else.
		{row(inf), row(inf), 0, 0}, {row(inf), row(inf - 1), inf, 0}, {row(inf), row(0), inf, 0}, {row(inf), row(most), inf, 0},
		{row(0, inf, 9), row(0, inf, 4), 5, 0}, {row(0, inf, 9), row(0, 3, inf), inf, inf}, {row(0, 3, 4), row(inf, inf, inf), 0, inf},
		{row(0, 3, 9), row(0, inf, 8), 1, inf}, {row(2, inf), row(0, inf), 2, 0},
		// What num does not take as it stands: below 0, above Inf.
		{row(-1), row(0), 0, 0}, {row(-1), row(-5), 0, 0}, {row(3), row(-5), 3, 0}, {row(3), row(least), 3, 0}, {row(least), row(greatest), 0, inf},
		{row(least), row(least), 0, 0}, {row(most), row(-1), most, 0}, {row(-1, 7, 2), row(0, 3, 4), 4, 2}, {row(inf), row(-1), inf, 0},
		{row(inf + 1), row(inf), 0, 0}, {row(greatest), row(inf), 0, 0}, {row(greatest), row(inf + 1), 0, 0}, {row(greatest), row(greatest), 0, 0},
		{row(greatest), row(inf - 1), inf, 0}, {row(inf + 1), row(inf - 1), inf, 0}, {row(greatest), row(least), inf, 0}, {row(inf + 5), row(5), inf, 0},
	} {
		checkHigh(t, c.f, c.g, c.want)
		checkHigh(t, c.g, c.f, c.back)
	}
}

func TestFar(t *testing.T) {
	for _, c := range []struct {
		f, g       []int
		want, back int
	}{
		// Ordinary rows, and a row beside itself.
		{row(0, 3, 4), row(0, 0, 3, 5), 1, never}, {row(0, 3, 4, 5), row(0, 0, 2, 4, 6), 2, never}, {row(0, 2, 4), row(0, 2, 4), 0, 0},
		{row(0, 5, 6, 7), row(0, 2, 4, 6, 8, 10), 2, never}, {row(0, 4, 4, 4), row(0, 1, 2, 3, 4), 3, never}, {row(0, 6, 7, 8), row(0, 3, 6, 9), 1, never},
		// No rows: without ticks of f none is behind, and without g all of them are.
		{nil, nil, 0, 0}, {row(), nil, 0, 0}, {nil, row(0), 0, never}, {row(), row(9, 9), 0, never}, {nil, row(inf, least), 0, never}, {row(-1), nil, never, 0},
		// One number each.
		{row(0), row(0), 0, 0}, {row(3), row(3), 0, 0}, {row(3), row(4), 0, never},
		// f is longer: its last ticks have nothing beside them, not even where they ask for nothing.
		{row(0, 0), row(0), never, 0}, {row(0, 0, 0), row(5, 5), never, never}, {row(1, 2, 0), row(9, 9), never, never}, {row(-1, least), row(inf), never, never},
		// g is longer: what comes behind f's end counts.
		{row(0, 3), row(0, 0, 0, 3), 2, never}, {row(9), row(0, 3, 9), 2, never}, {row(3), row(0, 0, 3, 5), 2, never}, {row(3), row(3, 0, 0, 0), 0, never},
		{row(0, 9), row(0, 0, 8, 8, 8, 9, 9), 4, never}, {row(2), row(0, 1, 2, 3), 2, never},
		// Nowhere behind: always just as much, always more.
		{row(0, 3, 9), row(0, 3, 9), 0, 0}, {row(0, 3, 9), row(1, 4, 10), 0, never}, {row(0, 0, 0), row(0, 0, 0), 0, 0}, {row(0, 1, 1, 2), row(5, 1, 2, 2), 0, never},
		// Behind at the first tick alone, at the last one, at one between.
		{row(1, 1, 2), row(0, 1, 2), 1, 0}, {row(2, 0, 0), row(0, 0, 2), 2, never}, {row(4, 1, 1), row(3, 2, 1, 4), 3, never},
		{row(0, 1, 2), row(0, 1, 1, 2), 1, never}, {row(0, 1, 9), row(0, 1, 8, 8, 8, 9), 3, never}, {row(0, 5, 2), row(0, 1, 2, 5), 2, never}, {row(0, 5, 2), row(0, 1, 5), 1, never},
		// By all the ticks that there are.
		{row(5, 0, 0, 0), row(0, 0, 0, 5), 3, never}, {row(5), row(4, 4, 4, 4, 5), 4, never}, {row(5, 5, 5, 5), row(4, 4, 4, 5), 3, 0}, {row(1, 0), row(0, 1), 1, never},
		{row(5), row(4, 4, 4, 4, 4), never, never}, {repeat(full-1, 0, 1), repeat(1, 1, make([]int, full-1)...), full - 1, never},
		// The most of all ticks, not the first, the last or the least.
		{row(1, 3, 4), row(0, 1, 2, 2, 3, 3, 4), 4, never}, {row(4, 4, 4), row(0, 0, 0, 4), 3, never}, {row(3, 1, 5), row(1, 3, 2, 5), 1, never},
		{row(2, 5, 0, 5), row(1, 2, 1, 1, 5, 5), 3, never},
		// The other one never comes up to it: at its first tick, at its last one, only ahead of it, by one.
		{row(9, 0, 0), row(8, 8, 8), never, never}, {row(0, 0, 9), row(0, 0, 8), never, 0}, {row(0, 0, 3), row(3, 3, 2), never, 2}, {row(0, 4), row(4, 3, 3), never, never},
		{row(0, 0, 3), row(3, 3, 2, 2, 2), never, never}, {row(0, 2, 0, 0), row(9, 1, 1, 1), never, never}, {row(7), row(6, 6, 6), never, never},
		// f falls: what it falls to asks for less, what it fell from still counts.
		{row(5, 3, 1), row(1, 3, 5), 2, never}, {row(5, 3, 1), row(5, 3, 1), 0, 0}, {row(9, 0, 1), row(0, 0, 1, 9), 3, never}, {row(3, 2, 1, 0), row(0, 1, 2, 3), 3, never},
		{row(6, 0, 0), row(0, 0, 5), never, never},
		// g falls: the first that is enough counts, though there be less of it later, and more.
		{row(3, 3), row(5, 1, 0, 4), 2, never}, {row(4), row(1, 9, 0, 4), 1, never}, {row(2, 4), row(3, 1, 2, 9, 4), 2, never}, {row(4, 4, 4), row(2, 6, 1, 5, 3), 1, never},
		{row(0, 9, 2), row(9, 2, 7, 1, 9), 3, never}, {row(1, 1, 1), row(0, 1, 0, 0, 1), 2, never}, {row(2, 2), row(3, 0, 1, 3, 2), 2, never},
		// Numbers at every end.
		{row(0, most), row(0, most-1, most), 1, never}, {row(most + 1), row(most, most+1), 1, never}, {row(most + 1), row(most, most), never, never},
		{row(inf - 1), row(inf-2, inf-1), 1, never}, {row(inf - 1), row(inf-2, inf-2), never, never}, {row(3 * most), row(2*most, 3*most, inf), 1, never},
		// Inf in either row: Inf alone is as much as Inf, and enough for all else.
		{row(inf), row(inf), 0, 0}, {row(inf), row(inf - 1), never, 0}, {row(0, inf), row(0, inf-1, inf), 1, never}, {row(0, inf), row(inf, inf-1, inf-1), never, never},
		{row(0, inf, 5), row(0, inf, 5), 0, 0}, {row(7, 7, 7), row(0, 0, inf), 2, never}, {row(0, 3, 4), row(inf, inf, inf), 0, never}, {row(inf, 0), row(0, 9, 9, 9, inf), 4, never},
		{row(inf, inf), row(inf, 0, inf), 1, never},
		// What num does not take as it stands: below 0, above Inf.
		{row(-1), row(0), 0, 0}, {row(0), row(-1), 0, 0}, {row(0), row(least, 5), 0, never}, {row(-1), row(-5), 0, 0}, {row(-5, 0, -2), row(least, least, -9), 0, 0},
		{row(1), row(-1, least, 1), 2, never}, {row(-1, 7, 2), row(0, 3, 4), never, never}, {row(least, 1), row(greatest, 0, 1), 1, never}, {row(0, 0), row(-3, -7, 4), 0, never},
		{row(greatest), row(inf), 0, 0}, {row(inf + 1), row(inf, greatest), 0, never}, {row(greatest), row(inf-1, inf, greatest), 1, never}, {row(greatest), row(inf-1, inf-1), never, never},
		{row(inf), row(greatest), 0, 0}, {row(0, inf+1), row(0, 0, inf, greatest), 1, never}, {row(greatest, 5), row(inf, 4, 5, 9), 1, never},
	} {
		checkFar(t, c.f, c.g, c.want)
		checkFar(t, c.g, c.f, c.back)
	}
}

func TestServes(t *testing.T) {
	for _, c := range []struct {
		rate, late, n int
		want          []int
	}{
		// Ordinary ones; at once, and some ticks late.
		{2, 1, 4, row(0, 0, 2, 4)}, {2, 1, 5, row(0, 0, 2, 4, 6)}, {3, 2, 6, row(0, 0, 0, 3, 6, 9)}, {2, 0, 5, row(0, 2, 4, 6, 8)}, {1, 0, 3, row(0, 1, 2)},
		// Rates below 0, of 0, of Most, above it, and at both ends.
		{-1, 0, 5, nil}, {-most, 1, 5, nil}, {least, 0, 5, nil}, {least + 1, 3, 1, nil}, {0, 0, 3, row(0, 0, 0)}, {0, 2, 4, row(0, 0, 0, 0)},
		{most - 1, 0, 3, row(0, most-1, 2*most-2)}, {most, 0, 3, row(0, most, 2*most)}, {most, 2, 5, row(0, 0, 0, most, 2*most)},
		{most + 1, 0, 3, nil}, {most + 1, 9, 3, nil}, {2 * most, 0, 1, nil}, {inf, 0, 5, nil}, {greatest, 0, 5, nil}, {greatest, greatest, greatest, nil},
		// Lates below 0, of 0, around n, and at the greatest int.
		{1, -1, 5, nil}, {1, -5, 5, nil}, {1, least, 5, nil}, {0, -1, 5, nil}, {0, least, 1, nil}, {7, 0, 1, row(0)}, {7, 0, 2, row(0, 7)},
		{7, 2, 5, row(0, 0, 0, 7, 14)}, {7, 3, 5, row(0, 0, 0, 0, 7)}, {7, 4, 5, row(0, 0, 0, 0, 0)}, {7, 5, 5, row(0, 0, 0, 0, 0)}, {7, 6, 5, row(0, 0, 0, 0, 0)},
		{most, inf, 3, row(0, 0, 0)}, {most, greatest - 1, 3, row(0, 0, 0)}, {most, greatest, 3, row(0, 0, 0)}, {1, 0, 4, row(0, 1, 2, 3)}, {1, full, 2, row(0, 0)},
		// n below 0, of 0 and of 1.
		{2, 1, -1, nil}, {2, 0, -full, nil}, {2, 1, least, nil}, {most, greatest, least, nil}, {2, 0, 0, nil}, {2, 1, 0, nil}, {2, 0, 1, row(0)}, {2, 1, 1, row(0)}, {most, 0, 1, row(0)},
		// What is wrong is none, however many are asked for.
		{-1, 0, 0, nil}, {-1, -1, -1, nil}, {1, -1, greatest, nil}, {most + 1, 0, greatest, nil},
	} {
		check(t, bound.Serves(c.rate, c.late, c.n), c.want, "Serves", c.rate, c.late, c.n)
	}
}

func TestServesLong(t *testing.T) {
	for _, n := range row(full-1, full, full+1, 999, most, inf, greatest-1, greatest) {
		for _, rate := range row(0, 1, 5, most-1, most) {
			for _, late := range row(0, 1, 2, 150, full-3, full-2, full-1, full, full+1, most, greatest) {
				want := row()
				for tick := range min(n, full) {
					number := 0
					if tick > late {
						number = rate * (tick - late)
					}
					want = append(want, number)
				}
				check(t, bound.Serves(rate, late, n), want, "Serves", rate, late, n)
			}
		}
	}
}

func TestKeeps(t *testing.T) {
	for _, c := range []struct {
		f, to []int
		want  bool
	}{
		// Ordinary rows.
		{row(0, 3, 4), row(0, 3, 4), true}, {row(0, 3, 5, 7), row(0, 3, 5, 7), true}, {row(0, 0, 3, 5), row(0, 3, 5, 7), true}, {row(0, 0, 3, 5), row(0, 0, 3, 5), false},
		{row(0, 1, 9), row(0, 1, 9), false}, {row(0, 2, 4, 6), row(0, 2, 4, 6), true}, {row(0, 2, 4, 6), row(0, 2, 4, 5), false},
		// No ticks and one: nothing rises.
		{nil, nil, true}, {row(), row(), true}, {nil, row(0), true}, {row(), row(5, 2), true}, {nil, row(-1), true},
		{row(0), nil, true}, {row(9), row(), true}, {row(0), row(0), true}, {row(9), row(0), true}, {row(inf), row(0), true}, {row(greatest), nil, true}, {row(least), row(least), true},
		// No row: what keeps to it never rises.
		{row(0, 0, 0), nil, true}, {row(4, 4), row(), true}, {row(9, 4, 4, 1), nil, true}, {row(0, 1), nil, false}, {row(0, 0, 0, 1), row(), false}, {row(5, 0, 1), nil, false},
		// A row that is shorter: its last number holds on.
		{row(0, 3, 3, 3), row(0, 3), true}, {row(0, 3, 3, 4), row(0, 3), false}, {row(0, 2, 4, 4, 4), row(0, 2, 4), true}, {row(0, 2, 4, 4, 5), row(0, 2, 4), false},
		{row(0, 1, 2, 3), row(3), true}, {row(0, 1, 2, 4), row(3), false}, {row(0, 1), row(0), false}, {row(3, 3), row(0), true}, {row(0, 2, 0, 2), row(0, 2), true},
		// A row that is longer: what it has behind f's end does not count.
		{row(0, 3), row(0, 3, 0, 0), true}, {row(0, 3), row(0, 2, 9, 9), false}, {row(7), row(0, 0, 0), true}, {row(0, 1, 3), row(0, 2, 3, -4), true},
		// Kept to just so, and broken by one: in the first pair of ticks that follow one another, a middle one, the last one.
		{row(0, 2, 2, 2, 2), row(0, 2, 9), true}, {row(0, 3, 3, 3, 3), row(0, 2, 9), false}, {row(0, 0, 2, 2, 2), row(0, 2, 9), true}, {row(0, 0, 3, 3, 3), row(0, 2, 9), false},
		{row(0, 0, 0, 0, 2), row(0, 2, 9), true}, {row(0, 0, 0, 0, 3), row(0, 2, 9), false},
		// The same with pairs that are two ticks apart, and with the first and the last tick.
		{row(0, 2, 3, 3, 3), row(0, 2, 3, 9), true}, {row(0, 2, 4, 4, 4), row(0, 2, 3, 9), false}, {row(0, 0, 1, 3, 3), row(0, 2, 3, 9), true}, {row(0, 0, 2, 4, 4), row(0, 2, 3, 9), false},
		{row(0, 0, 0, 1, 3), row(0, 2, 3, 9), true}, {row(0, 0, 0, 2, 4), row(0, 2, 3, 9), false},
		{row(0, 2, 4, 6, 7), row(9, 9, 9, 9, 7), true}, {row(0, 2, 4, 6, 8), row(9, 9, 9, 9, 7), false}, {row(5, 5, 5, 5, 6), row(0, 9, 9, 9, 0), false},
		// At 0 its number counts for nothing, whatever it is, unless it is the last one.
		{row(0, 3, 4), row(5, 3, 4), true}, {row(0, 3, 4), row(5, 2, 4), false}, {row(0, 3, 4), row(-5, 3, 4), true}, {row(0, 0), row(7, 0), true}, {row(0, 1), row(7, 0), false},
		{row(0, 3, 4), row(inf, 3, 4), true}, {row(0, 3, 4), row(greatest, 3, 3), false}, {row(6, 9, 10), row(least, 3, 4), true}, {row(0, 4), row(4), true}, {row(0, 5), row(4), false},
		// What begins above 0 counts by how it rises.
		{row(9, 12, 13), row(0, 3, 4), true}, {row(9, 12, 14), row(0, 3, 4), false}, {row(most, most+1), row(0, 1), true}, {row(most, most+2), row(0, 1), false},
		// An f that falls: what falls keeps to any row, and what rises again counts from where it fell to.
		{row(9, 5, 2), row(0, 0, 0), true}, {row(9, 5, 2), nil, true}, {row(0, 3, 0, 3), row(0, 3, 0, 3), true}, {row(0, 3, 0, 3), row(0, 3, 0), false}, {row(5, 0, 3), row(0, 3, 0), true}, {row(5, 0, 3), row(0, 2, 9), false},
		{row(4, 0, 1, 4), row(0, 3, 4), true}, {row(4, 0, 1, 4), row(0, 3, 3), false}, {row(9, 0, 9), row(0, 9, 0), true}, {row(9, 0, 9), row(0, 8, 8), false}, {row(3, 4, 1), row(0, 1, 0), true},
		// A row that falls.
		{row(0, 1, 2), row(0, 5, 1), false}, {row(0, 1, 1), row(0, 5, 1), true}, {row(0, 2, 0), row(0, 2, 0), true}, {row(0, 2, 1), row(0, 2, 0), false},
		// Numbers at every end.
		{row(0, most), row(0, most), true}, {row(0, most), row(0, most-1), false}, {row(0, most+1), row(0, most), false}, {row(0, most, 2*most), row(0, most, 2*most), true},
		{row(0, inf-1), row(0, inf-1), true}, {row(0, inf-1), row(0, inf-2), false}, {row(0, inf-1), row(0, inf), true}, {row(1, inf-1), row(0, inf-2), true},
		// Inf in f: it is by Inf above all else, though it be one more; from Inf on nothing rises.
		{row(0, inf), row(0, inf), true}, {row(0, inf), row(0, inf-1), false}, {row(inf-1, inf), row(0, 1), false}, {row(inf-1, inf), row(0, inf-1), false}, {row(inf-1, inf), row(0, inf), true},
		{row(inf, inf), row(0, 0), true}, {row(inf, inf, inf), nil, true}, {row(inf, 0), nil, true}, {row(0, inf, inf), row(0, inf, 5), false}, {row(0, inf, inf), row(0, inf), true},
		{row(inf, 0, inf), row(0, inf, 0), true}, {row(inf, 0, inf), row(0, inf-1, inf), false}, {row(0, inf, 5), row(0, inf, 5), true}, {row(0, inf, 5), row(0, inf, 4), false},
		// Inf in the row: whatever comes in so many ticks keeps to it.
		{row(0, 9, 10), row(0, inf, 10), true}, {row(0, 9, 10), row(0, inf, 9), false}, {row(0, 5, inf), row(0, inf), true}, {row(0, 5, 6), row(inf), true}, {row(7, 0, inf), row(inf), true},
		// What num does not take as it stands: below 0, above Inf.
		{row(-5, 0), row(0, 0), true}, {row(least, 0), nil, true}, {row(-5, 1), row(0, 1), true}, {row(-5, 2), row(0, 1), false}, {row(least, greatest), row(0, inf), true},
		{row(0, -9, 3), row(0, 3, 3), true}, {row(0, -9, 3), row(0, 2, 3), false}, {row(0, 0), row(-1, -1), true}, {row(0, 1), row(0, -1), false}, {row(0, 1), row(0, least), false},
		{row(greatest, inf), nil, true}, {row(inf, greatest), nil, true}, {row(inf+1, greatest), row(0, 0), true}, {row(0, greatest), row(0, inf), true}, {row(0, greatest), row(0, inf-1), false},
		{row(0, inf), row(0, greatest), true}, {row(0, inf+1), row(0, inf+1), true}, {row(inf-1, greatest), row(0, most), false}, {row(-1, 7, 2), row(0, 7, 2), true}, {row(-1, 7, 2), row(0, 6, 9), false},
	} {
		checkKeeps(t, c.f, c.to, c.want)
	}
}

// rows gives every row of up to longest numbers of values.
func rows(longest int, values ...int) func(yield func([]int) bool) {
	return func(yield func([]int) bool) {
		count := 1
		for length := range longest + 1 {
			for code := range count {
				l := make([]int, length)
				for i := range l {
					l[i] = values[code%len(values)]
					code /= len(values)
				}
				if !yield(l) {
					return
				}
			}
			count *= len(values)
		}
	}
}

func counts(number int) int {
	switch {
	case number < 0:
		return 0
	case number > inf:
		return inf
	}
	return number
}

func more(a, b int) int {
	a, b = counts(a), counts(b)
	switch {
	case b == inf || a < b:
		return 0
	case a == inf:
		return inf
	}
	return a - b
}

func highByWords(f, g []int) int {
	above := row(0)
	for tick := range f {
		if tick < len(g) {
			above = append(above, more(f[tick], g[tick]))
		}
	}
	return slices.Max(above)
}

func farByWords(f, g []int) int {
	behind := row(0)
	for tick := range f {
		later := 0
		for tick+later < len(g) && counts(g[tick+later]) < counts(f[tick]) {
			later++
		}
		if tick+later >= len(g) {
			return never
		}
		behind = append(behind, later)
	}
	return slices.Max(behind)
}

func keepsByWords(f, to []int) bool {
	for last := range f {
		for first := 0; first <= last; first++ {
			may := 0
			if len(to) > 0 {
				may = counts(to[min(last-first, len(to)-1)])
			}
			if more(f[last], f[first]) > may {
				return false
			}
		}
	}
	return true
}

func checkByWords(t *testing.T, f, g []int) {
	t.Helper()
	checkHigh(t, f, g, highByWords(f, g))
	checkFar(t, f, g, farByWords(f, g))
	checkKeeps(t, f, g, keepsByWords(f, g))
}

func TestAllShortRows(t *testing.T) {
	for f := range rows(3, least, -1, 0, 1, most, inf-1, inf, greatest) {
		for g := range rows(3, least, -1, 0, 1, most, inf-1, inf, greatest) {
			checkByWords(t, f, g)
		}
	}
	for f := range rows(4, 0, 1, 2, 3) {
		for g := range rows(5, 0, 1, 2, 3) {
			checkByWords(t, f, g)
		}
	}
}

// Rows for which looking through all later ticks, anew at each tick, would take far too long.
func TestLongRows(t *testing.T) {
	const length = 500_000
	falls, last := make([]int, length), make([]int, length)
	for tick := range falls {
		falls[tick] = length - tick
	}
	checkFar(t, falls, falls, 0)
	checkHigh(t, falls, last, length)
	checkFar(t, falls, last, never)
	last[length-1] = length
	checkFar(t, falls, last, length-1)
	slices.Reverse(falls)
	checkFar(t, falls, last, length-1)
	falls[length-1]++
	checkFar(t, falls, last, never)
	checkHigh(t, falls, last, length-1)
}

func TestLongKeeps(t *testing.T) {
	const length = 2000
	f, to := make([]int, length), make([]int, length)
	for tick := range f {
		f[tick] = min(5*tick, 2*tick+90)
		to[tick] = min(5*tick, 2*tick+90)
	}
	checkKeeps(t, f, to, true)
	f[length-1]++
	checkKeeps(t, f, to, false)
	checkKeeps(t, f[:length-1], to, true)
	f[1]++
	checkKeeps(t, f[:length-1], to, false)
}

// No more waits than one row is above the other, and nobody is later than one is behind the other; who sends as much as may be sent waits just so.
func TestNoMoreWaits(t *testing.T) {
	for rate := 1; rate <= 3; rate++ {
		serves := bound.Serves(rate, 0, 40)
		for steps := range rows(5, 0, 1, 3, 4) {
			for _, b := range []api.Bucket{{Rate: 0, Burst: 4}, {Rate: 1, Burst: 3}, {Rate: 1, Burst: 6}, {Rate: 2, Burst: 5}, {Rate: 3, Burst: 4}} {
				line := bucket.Line(b, len(steps)+1)
				checkWaits(t, rate, steps, line, serves)
			}
			checkWaits(t, rate, steps, curve.Of(steps), serves)
		}
	}
}

func checkWaits(t *testing.T, rate int, steps, line, serves []int) {
	t.Helper()
	if !bound.Keeps(curve.Of(steps), line) {
		return
	}
	high := bound.High(line, serves)
	far, ok := bound.Far(line, serves)
	_, _, waits := queue.Play(rate, most, steps)
	// Long enough without anything more that all of it goes.
	delays := queue.Delays(rate, repeat(30, 0, slices.Clone(steps)...))
	mostWaits, mostLate := slices.Max(append(waits, 0)), slices.Max(append(delays, 0))
	if !ok || mostWaits > high || mostLate > far {
		t.Errorf("of %v, %d a tick, %d wait and are %d late; the bounds by %v are %d and %d, %v", steps, rate, mostWaits, mostLate, line, high, far, ok)
	}
	if slices.Equal(curve.Of(steps), line) && (mostWaits != high || mostLate != far) {
		t.Errorf("of all that may come by %v, %d a tick, %d wait and are %d late, not %d and %d", line, rate, mostWaits, mostLate, high, far)
	}
}

// Steps keep to a bucket if what has come of them keeps to its line.
func TestKeepsAsBucket(t *testing.T) {
	for steps := range rows(5, 0, 1, 2, 4) {
		for _, b := range []api.Bucket{{}, {Burst: 3}, {Rate: 1, Burst: 1}, {Rate: 1, Burst: 4}, {Rate: 2, Burst: 3}, {Rate: 4, Burst: 2}} {
			checkKeeps(t, curve.Of(steps), bucket.Line(b, len(steps)+1), bucket.Keeps(b, steps))
		}
	}
}

// Neither the rows nor the room behind them change or count, and what is answered is the caller's own.
func TestHandedIn(t *testing.T) {
	was, other := row(0, -3, 4, greatest, greatest), row(2, 5, 3, inf, inf)
	f, g := slices.Clone(was), slices.Clone(other)
	checkHigh(t, f[:3], g[:4], 1)
	checkHigh(t, g[:4], f[:3], 5)
	checkFar(t, f[:3], g[:3], never)
	checkFar(t, f[:3], g[:4], 1)
	checkFar(t, f[:4], g[:3], never)
	checkKeeps(t, f[:3], g[:2], true)
	checkKeeps(t, f[:4], g[:3], false)
	checkKeeps(t, f[:3], f[:2], false)
	check(t, f, was, "what was handed in first")
	check(t, g, other, "what was handed in next")
	clear(bound.Serves(2, 1, 4))
	check(t, bound.Serves(2, 1, 4), row(0, 0, 2, 4), "Serves", 2, 1, 4)
}
