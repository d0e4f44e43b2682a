package window_test

import (
	"math"
	"slices"
	"testing"

	"tidewait/window"
)

const (
	least    = math.MinInt
	greatest = math.MaxInt
)

func row(l ...int) []int { return l }

func check(t *testing.T, got, want []int, name string, args ...any) {
	t.Helper()
	if !slices.Equal(got, want) {
		t.Errorf("%s of %v is %v, not %v", name, args, got, want)
	}
}

func TestMinMax(t *testing.T) {
	up, down := row(1, 2, 3, 4, 5, 6), row(6, 5, 4, 3, 2, 1)
	for _, c := range []struct {
		l        []int
		w        int
		min, max []int
	}{
		// Ordinary ones.
		{row(5, 3, 4, 9, 1), 2, row(5, 3, 3, 4, 1), row(5, 5, 4, 9, 9)},
		{row(5, 3, 4, 9, 1), 3, row(5, 3, 3, 3, 1), row(5, 5, 5, 9, 9)},
		{up, 3, row(1, 1, 1, 2, 3, 4), up},
		{down, 3, down, row(6, 6, 6, 5, 4, 3)},
		{row(2, 2, 2), 2, row(2, 2, 2), row(2, 2, 2)},
		{row(1, 7, 1, 7, 7, 1), 2, row(1, 1, 1, 1, 7, 1), row(1, 7, 7, 7, 7, 7)},
		// Rows of no number and of one.
		{nil, 3, nil, nil}, {row(), 3, nil, nil}, {nil, greatest, nil, nil},
		{row(5), 1, row(5), row(5)}, {row(5), 2, row(5), row(5)}, {row(5), greatest, row(5), row(5)},
		// A window of 1, one less than the row, as wide as it, wider, and the greatest int.
		{row(5, 3, 4, 9, 1), 1, row(5, 3, 4, 9, 1), row(5, 3, 4, 9, 1)},
		{up, 5, row(1, 1, 1, 1, 1, 2), up}, {down, 5, down, row(6, 6, 6, 6, 6, 5)},
		{up, 6, row(1, 1, 1, 1, 1, 1), up}, {down, 6, down, row(6, 6, 6, 6, 6, 6)},
		{up, 7, row(1, 1, 1, 1, 1, 1), up}, {down, 7, down, row(6, 6, 6, 6, 6, 6)},
		{up, greatest, row(1, 1, 1, 1, 1, 1), up}, {down, greatest - 1, down, row(6, 6, 6, 6, 6, 6)},
		{row(5, 3, 4, 9, 1), greatest, row(5, 3, 3, 3, 1), row(5, 5, 5, 9, 9)},
		// Numbers below 0, and those where int ends.
		{row(-3, -5, -4, 0, 2), 2, row(-3, -5, -5, -4, 0), row(-3, -3, -4, 0, 2)},
		{row(least, greatest, 0), 1, row(least, greatest, 0), row(least, greatest, 0)},
		{row(least, greatest, 0), 2, row(least, least, 0), row(least, greatest, greatest)},
		{row(least, greatest, 0), greatest, row(least, least, least), row(least, greatest, greatest)},
		{row(greatest, least, least, greatest), 2, row(greatest, least, least, least), row(greatest, greatest, least, greatest)},
		// Windows that are none.
		{up, 0, nil, nil}, {up, -1, nil, nil}, {up, least, nil, nil}, {up, least + 1, nil, nil},
		{nil, 0, nil, nil}, {nil, least, nil, nil}, {row(5), 0, nil, nil},
	} {
		check(t, window.Min(c.l, c.w), c.min, "Min", c.l, c.w)
		check(t, window.Max(c.l, c.w), c.max, "Max", c.l, c.w)
	}
}

func TestBase(t *testing.T) {
	up, mixed := row(1, 2, 3, 4, 5, 6), row(5, 3, 4, 9, 1, 7, 8)
	for _, c := range []struct {
		l          []int
		part, keep int
		want       []int
	}{
		// Ordinary ones: a part begins anew at its own first number.
		{up, 2, 1, row(1, 1, 3, 3, 5, 5)},
		{up, 2, 2, row(1, 1, 1, 1, 3, 3)},
		{up, 3, 1, row(1, 1, 1, 4, 4, 4)},
		{up, 4, 1, row(1, 1, 1, 1, 5, 5)},
		{up, 2, 3, row(1, 1, 1, 1, 1, 1)},
		{mixed, 2, 1, row(5, 3, 4, 4, 1, 1, 8)},
		{mixed, 2, 2, row(5, 3, 3, 3, 1, 1, 1)},
		{mixed, 3, 1, row(5, 3, 3, 9, 1, 1, 8)},
		{mixed, 3, 2, row(5, 3, 3, 3, 1, 1, 1)},
		{row(6, 5, 4, 3, 2, 1), 2, 2, row(6, 5, 4, 3, 2, 1)},
		{row(2, 2, 2), 2, 1, row(2, 2, 2)},
		// Rows of no number and of one.
		{nil, 2, 2, nil}, {row(), 2, 2, nil}, {nil, greatest, greatest, nil},
		{row(5), 1, 1, row(5)}, {row(5), 2, 1, row(5)}, {row(5), greatest, greatest, row(5)},
		// A part of 1: the last keep numbers.
		{up, 1, 1, up}, {up, 1, 2, row(1, 1, 2, 3, 4, 5)}, {up, 1, 5, row(1, 1, 1, 1, 1, 2)},
		// A part one less than the row, as wide as it, wider, and the greatest int.
		{up, 5, 1, row(1, 1, 1, 1, 1, 6)}, {up, 5, 2, row(1, 1, 1, 1, 1, 1)},
		{up, 6, 1, row(1, 1, 1, 1, 1, 1)}, {up, 7, 1, row(1, 1, 1, 1, 1, 1)},
		{mixed, 7, 1, row(5, 3, 3, 3, 1, 1, 1)}, {mixed, 8, 1, row(5, 3, 3, 3, 1, 1, 1)},
		{mixed, greatest, 1, row(5, 3, 3, 3, 1, 1, 1)}, {mixed, greatest - 1, 2, row(5, 3, 3, 3, 1, 1, 1)},
		// As many parts kept as there are, more, and the greatest int.
		{up, 1, 6, row(1, 1, 1, 1, 1, 1)}, {up, 1, 7, row(1, 1, 1, 1, 1, 1)},
		{up, 2, 4, row(1, 1, 1, 1, 1, 1)}, {mixed, 3, 3, row(5, 3, 3, 3, 1, 1, 1)},
		{up, 1, greatest, row(1, 1, 1, 1, 1, 1)}, {up, 2, greatest, row(1, 1, 1, 1, 1, 1)},
		{mixed, 2, greatest - 1, row(5, 3, 3, 3, 1, 1, 1)}, {mixed, greatest, greatest, row(5, 3, 3, 3, 1, 1, 1)},
		// Numbers below 0, and those where int ends.
		{row(-3, -5, -4, 0, 2), 2, 1, row(-3, -5, -4, -4, 2)},
		{row(-3, -5, -4, 0, 2), 2, 2, row(-3, -5, -5, -5, -4)},
		{row(least, greatest, 0), 1, 1, row(least, greatest, 0)},
		{row(least, greatest, 0), 2, 1, row(least, least, 0)},
		{row(least, greatest, 0), 1, 2, row(least, least, 0)},
		{row(greatest, least, greatest, greatest), 2, 1, row(greatest, least, greatest, greatest)},
		{row(greatest, least, greatest, greatest), 2, 2, row(greatest, least, least, least)},
		// Parts and keeps that are none.
		{up, 0, 1, nil}, {up, 1, 0, nil}, {up, 0, 0, nil}, {up, -1, 2, nil}, {up, 2, -1, nil},
		{up, least, 1, nil}, {up, 1, least, nil}, {up, least, least, nil}, {up, least, greatest, nil},
		{up, greatest, least, nil}, {up, -2, -2, nil}, {nil, 0, 0, nil}, {row(5), 0, 1, nil}, {row(5), 1, 0, nil},
	} {
		check(t, window.Base(c.l, c.part, c.keep), c.want, "Base", c.l, c.part, c.keep)
	}
}

// rows gives every row of up to 6 numbers of a few, the ends of int among them.
func rows(yield func([]int) bool) {
	values := row(least, -1, 2, greatest)
	for length := range 7 {
		count := 1
		for range length {
			count *= len(values)
		}
		for code := range count {
			l := make([]int, length)
			for i := range l {
				l[i] = values[code%len(values)]
				code /= len(values)
			}
			if !yield(l) {
				return
			}
		}
	}
}

func TestAllShortRows(t *testing.T) {
	sizes := row(1, 2, 3, 5, 6, 7, greatest-1, greatest)
	for l := range rows {
		for _, w := range sizes {
			low, high := make([]int, len(l)), make([]int, len(l))
			for i := range l {
				from := 0
				if i >= w {
					from = i - w + 1
				}
				low[i], high[i] = slices.Min(l[from:i+1]), slices.Max(l[from:i+1])
			}
			check(t, window.Min(l, w), low, "Min", l, w)
			check(t, window.Max(l, w), high, "Max", l, w)
			for _, keep := range sizes {
				check(t, window.Base(l, w, keep), baseByParts(l, w, keep), "Base", l, w, keep)
			}
		}
	}
}

// baseByParts goes as the chapter's words go: it cuts the row into parts, and asks each of those that count.
func baseByParts(l []int, part, keep int) []int {
	var out []int
	var mins []int // of the parts that are over
	for chunk := range slices.Chunk(l, part) {
		for i := range chunk {
			lowest := slices.Min(chunk[:i+1])
			for k := 1; k < keep && k <= len(mins); k++ {
				lowest = min(lowest, mins[len(mins)-k])
			}
			out = append(out, lowest)
		}
		mins = append(mins, slices.Min(chunk))
	}
	return out
}

// A long row with a wide window ends soon: the work hangs on the row, not on row times window.
func TestLongRow(t *testing.T) {
	const length = 1 << 20
	l := make([]int, length)
	for i := range l {
		l[i] = i
	}
	low, high, base := window.Min(l, length/2), window.Max(l, length/2), window.Base(l, 1<<10, 1<<9)
	for _, i := range row(0, 1, length/2-1, length/2, length-1) {
		if want := max(i-length/2+1, 0); low[i] != want {
			t.Errorf("Min at %d is %d, not %d", i, low[i], want)
		}
		if high[i] != i {
			t.Errorf("Max at %d is %d, not %d", i, high[i], i)
		}
		if want := max(i>>10-(1<<9-1), 0) << 10; base[i] != want {
			t.Errorf("Base at %d is %d, not %d", i, base[i], want)
		}
	}
}

// Neither the row nor the room behind it changes, and what is answered is the caller's own.
func TestHandedIn(t *testing.T) {
	for name, call := range map[string]func([]int) []int{
		"Min":  func(l []int) []int { return window.Min(l, 1) },
		"Max":  func(l []int) []int { return window.Max(l, 1) },
		"Base": func(l []int) []int { return window.Base(l, 1, 1) },
	} {
		whole := row(5, 3, 4, 9, 1)
		got := call(whole[:3])
		if !slices.Equal(whole, row(5, 3, 4, 9, 1)) {
			t.Errorf("%s changes what it is handed: %v", name, whole)
		}
		whole[0] = 100
		if !slices.Equal(got, row(5, 3, 4)) {
			t.Errorf("%s answers memory it was handed: %v", name, got)
		}
	}
}
