package filter_test

import (
	"math"
	"math/big"
	"slices"
	"testing"

	"tidewait/api"
	"tidewait/filter"
)

const (
	least    = math.MinInt
	greatest = math.MaxInt
	most     = api.Most
)

func row(l ...int) []int { return l }

func check(t *testing.T, got, want []int, name string, l []int, shift int) {
	t.Helper()
	if !slices.Equal(got, want) {
		t.Errorf("%s of %v by %d is %v, not %v", name, l, shift, got, want)
	}
}

func TestTable(t *testing.T) {
	for _, c := range []struct {
		l              []int
		shift          int
		smooth, spread []int
	}{
		// Ordinary rows. The mean keeps what it doesn't tell: 5, 2.5, 1.25 and 4.625 are told as 5, 2, 1 and 4.
		{row(8, 0, 0, 8), 1, row(8, 4, 2, 5), row(0, 4, 4, 5)},
		{row(8, 0, 0, 8), 2, row(8, 6, 4, 5), row(0, 2, 3, 3)},
		{row(5, 0, 0, 8), 1, row(5, 2, 1, 4), row(0, 2, 2, 4)},
		{row(10, 20, 20, 0), 1, row(10, 15, 17, 8), row(0, 5, 5, 11)},
		{row(100, 0, 100, 0), 3, row(100, 87, 89, 77), row(0, 12, 12, 22)},
		// Rows that rise, that fall and that stay.
		{row(1, 2, 4, 8, 16, 32), 1, row(1, 1, 2, 5, 10, 21), row(0, 0, 1, 3, 7, 14)},
		{row(32, 16, 8, 4, 2, 1), 1, row(32, 24, 16, 10, 6, 3), row(0, 8, 12, 12, 10, 7)},
		{row(7, 7, 7, 7), 1, row(7, 7, 7, 7), row(0, 0, 0, 0)},
		{row(7, 7, 7, 7), 16, row(7, 7, 7, 7), row(0, 0, 0, 0)},
		{row(0, 0, 0), 3, row(0, 0, 0), row(0, 0, 0)},
		// Rows of no number and of one.
		{nil, 1, nil, nil}, {row(), 1, nil, nil}, {nil, 0, nil, nil}, {row(), 16, nil, nil},
		{row(7), 0, row(7), row(0)}, {row(7), 1, row(7), row(0)}, {row(7), 16, row(7), row(0)}, {row(0), 1, row(0), row(0)},
		// A shift of 0: the number itself, and how far it is from the one ahead of it.
		{row(8, 0, 0, 8), 0, row(8, 0, 0, 8), row(0, 8, 0, 8)},
		{row(1, 2, 4, 8), 0, row(1, 2, 4, 8), row(0, 1, 2, 4)},
		{row(9, 5, 4, 4), 0, row(9, 5, 4, 4), row(0, 4, 1, 0)},
		// A shift of 16: 65535 more is not yet one whole more, but one 65536-th less is told as one whole less.
		{row(8, 0, 0, 8), 16, row(8, 7, 7, 7), row(0, 0, 0, 0)},
		{row(0, 65535), 16, row(0, 0), row(0, 0)}, {row(0, 65536), 16, row(0, 1), row(0, 1)},
		{row(65536, 0), 16, row(65536, 65535), row(0, 1)}, {row(65537, 0), 16, row(65537, 65535), row(0, 1)},
		{row(65536, 65535), 16, row(65536, 65535), row(0, 0)},
		{row(0, 131072, 1), 15, row(0, 4, 3), row(0, 4, 3)},
		// Numbers below 0, at 0, at Most, above it, and where int ends.
		{row(-5, 8, -1, 8), 1, row(0, 4, 2, 5), row(0, 4, 4, 5)},
		{row(least, 8, least, 8), 1, row(0, 4, 2, 5), row(0, 4, 4, 5)},
		{row(least), 1, row(0), row(0)}, {row(-1), 0, row(0), row(0)}, {row(-1, -2, least), 0, row(0, 0, 0), row(0, 0, 0)},
		{row(most), 1, row(most), row(0)}, {row(most + 1), 0, row(most), row(0)}, {row(greatest), 16, row(most), row(0)},
		{row(most-1, most, most+1, greatest), 0, row(most-1, most, most, most), row(0, 1, 0, 0)},
		{row(most, most+1, 1<<60, greatest), 4, row(most, most, most, most), row(0, 0, 0, 0)},
		{row(least, greatest), 0, row(0, most), row(0, most)}, {row(greatest, least), 0, row(most, 0), row(0, most)},
		{row(least, greatest), 1, row(0, most/2), row(0, most/2)}, {row(greatest, least), 1, row(most, most/2), row(0, most/2)},
		{row(least, greatest), 16, row(0, 1<<24), row(0, 1<<24)}, {row(greatest, least), 16, row(most, most-1<<24), row(0, 1<<24)},
		{row(-5, 1<<60, 3), 1, row(0, 549755813888, 274877906945), row(0, 549755813888, 549755813886)},
		// Shifts that are none.
		{row(8, 0), -1, nil, nil}, {row(8, 0), 17, nil, nil}, {row(8, 0), least, nil, nil}, {row(8, 0), greatest, nil, nil},
		{row(8, 0), 64, nil, nil}, {row(8, 0), -16, nil, nil}, {row(8, 0), least + 1, nil, nil}, {row(8, 0), 1 << 32, nil, nil},
		{nil, -1, nil, nil}, {nil, 17, nil, nil}, {row(7), -1, nil, nil}, {row(7), 17, nil, nil},
	} {
		check(t, filter.Smooth(c.l, c.shift), c.smooth, "Smooth", c.l, c.shift)
		check(t, filter.Spread(c.l, c.shift), c.spread, "Spread", c.l, c.shift)
	}
}

// rows gives every row of up to 4 numbers of a few, the ends of int among them.
func rows(yield func([]int) bool) {
	values := row(least, -1, 0, 1, 3, 70000, most-1, most, most+1, greatest)
	for length := range 5 {
		count := 1
		for range length {
			count *= len(values)
		}
		for code := range count {
			l := make([]int, length)
			for i := range l {
				l[i] = values[code%len(values)]
				code /= len(values)
			}
			if !yield(l) {
				return
			}
		}
	}
}

func TestAllShortRows(t *testing.T) {
	for l := range rows {
		for shift := range 17 {
			smooth := smoothByWords(l, shift)
			far := make([]int, len(l))
			for i, number := range l {
				far[i] = counts(number) - smooth[max(i-1, 0)]
				if far[i] < 0 {
					far[i] = -far[i]
				}
			}
			check(t, filter.Smooth(l, shift), smooth, "Smooth", l, shift)
			check(t, filter.Spread(l, shift), smoothByWords(far, shift), "Spread", l, shift)
		}
	}
}

func counts(number int) int {
	switch {
	case number < 0:
		return 0
	case number > most:
		return most
	}
	return number
}

// smoothByWords goes as the chapter's words go, in whole numbers without end: big's Div rounds towards
// what is less wherever the divisor is above 0.
func smoothByWords(l []int, shift int) []int {
	parts, through := big.NewInt(65536), big.NewInt(1<<shift)
	var out []int
	mean := new(big.Int)
	for i, number := range l {
		whole := new(big.Int).Mul(big.NewInt(int64(counts(number))), parts)
		if i == 0 {
			mean.Set(whole)
		}
		more := new(big.Int).Sub(whole, mean)
		mean.Add(mean, more.Div(more, through))
		out = append(out, int(new(big.Int).Div(mean, parts).Int64()))
	}
	return out
}

// A mean lies between the least and the greatest of what it was made of, however long the row.
func TestLongRow(t *testing.T) {
	l := make([]int, 1<<16)
	for i := range l {
		l[i] = 1000 + i*i%977
	}
	for shift := range 17 {
		smooth := filter.Smooth(l, shift)
		if len(smooth) != len(l) || slices.Min(smooth) < 1000 || slices.Max(smooth) > 1976 {
			t.Errorf("Smooth by %d does not lie between", shift)
		}
		check(t, smooth, smoothByWords(l, shift), "Smooth", nil, shift)
	}
}

// Neither the row nor the room behind it changes, and what is answered is the caller's own.
func TestHandedIn(t *testing.T) {
	for name, call := range map[string]func([]int, int) []int{"Smooth": filter.Smooth, "Spread": filter.Spread} {
		whole := row(5, -3, greatest, 9, 1)
		got := call(whole[:3], 0)
		if !slices.Equal(whole, row(5, -3, greatest, 9, 1)) {
			t.Errorf("%s changes what it is handed: %v", name, whole)
		}
		before := slices.Clone(got)
		clear(whole)
		if !slices.Equal(got, before) {
			t.Errorf("%s answers memory it was handed: %v", name, got)
		}
	}
}
