package jitter_test

import (
	"math"
	"math/big"
	"slices"
	"testing"

	"tidewait/api"
	"tidewait/jitter"
)

const (
	least    = math.MinInt
	greatest = math.MaxInt
	most     = api.Most
	inf      = api.Inf
	full     = api.MaxLength
)

func row(l ...int) []int { return l }

// repeat puts so many numbers behind what stands ahead of them.
func repeat(count, number int, ahead ...int) []int {
	return append(ahead, slices.Repeat(row(number), count)...)
}

func check(t *testing.T, got, want []int, name string, of ...any) {
	t.Helper()
	if !slices.Equal(got, want) {
		t.Errorf("%s of %v is %v, not %v", name, of, got, want)
	}
}

func checkBool(t *testing.T, got, want bool, name string, of ...any) {
	t.Helper()
	if got != want {
		t.Errorf("%s of %v is %v, not %v", name, of, got, want)
	}
}

// wrong is every kind of arguments that are not Right.
func wrong() [][2][]int {
	return [][2][]int{
		// Either row longer, by one or by many, also beside none, and though the other one would be Right.
		{row(1), nil}, {nil, row(1)}, {row(0), row()}, {row(), row(0)}, {row(1, 2), row(1)}, {row(1), row(1, 2)}, {row(1, 2, 3), row(1, 2)}, {row(1, 2), row(1, 2, 3)},
		{row(1, 2, 3, 4, 5), row(1)}, {row(1), row(1, 2, 3, 4, 5)}, {make([]int, full), make([]int, full+1)}, {make([]int, full+1), make([]int, full)},
		// Times that fall by one, or by more: at the first pair, a middle one, the last; at the greatest, too.
		{row(1, 0), row(0, 0)}, {row(5, 4, 4, 4), row(0, 0, 0, 0)}, {row(5, 6, 5, 5), row(0, 0, 0, 0)}, {row(5, 5, 5, 4), row(0, 0, 0, 0)}, {row(5, 4, 6, 7), row(0, 0, 0, 0)},
		{row(5, 7, 6, 8), row(0, 0, 0, 0)}, {row(5, 6, 8, 7), row(0, 0, 0, 0)}, {row(9, 0), row(0, 0)}, {row(0, 9, 0), row(0, 0, 0)}, {row(most, most-1), row(0, 0)}, {row(most, 0), row(0, 0)},
		{row(3, 2, 1), row(7, 8, 9)}, {append(repeat(full, 1), 0), make([]int, full+1)},
		// A time below 0, or above Most: the first, a middle one, the last.
		{row(-1), row(0)}, {row(-1, 0, 1), row(0, 0, 0)}, {row(-1, -1), row(1, 1)}, {row(1, -1, 1), row(0, 0, 0)}, {row(1, 1, -1), row(0, 0, 0)}, {row(least, 0, 0), row(0, 0, 0)},
		{row(most + 1), row(0)}, {row(1, 2, most+1), row(0, 0, 0)}, {row(1, most+1, most+1), row(0, 0, 0)}, {row(1, most+1, 2), row(0, 0, 0)}, {row(most+1, most+1), row(0, 0)},
		{row(0, inf), row(0, 0)}, {row(0, greatest), row(0, 0)}, {row(greatest), row(greatest)}, {row(least), row(least)}, {row(least, greatest), row(0, 0)},
		// A late below 0, or above Most, likewise; also where both together are within.
		{row(1), row(-1)}, {row(1, 2, 3), row(-1, 0, 0)}, {row(1, 2, 3), row(0, -1, 0)}, {row(1, 2, 3), row(0, 0, -1)}, {row(1, 2, 3), row(least, 0, 0)}, {row(1, 2, 3), row(0, 0, least)},
		{row(0), row(most + 1)}, {row(0, 0, 0), row(most+1, 0, 0)}, {row(0, 0, 0), row(0, most+1, 0)}, {row(0, 0, 0), row(0, 0, most+1)}, {row(0, 0), row(0, inf)}, {row(0, 0), row(greatest, 0)},
		{row(9, 9), row(-9, 0)}, {row(-1), row(most)}, {row(most + 1), row(-1)}, {row(-1), row(-1)}, {row(most + 1), row(most + 1)},
	}
}

func TestRight(t *testing.T) {
	for _, c := range [][2][]int{
		// Ordinary rows, none, one.
		{row(1, 2, 9), row(5, 0, 1)}, {row(1, 2, 3), row(0, 0, 0)}, {nil, nil}, {row(), nil}, {nil, row()}, {row(), row()}, {row(0), row(0)}, {row(7), row(3)},
		// Times that stay and that rise: at the first pair, a middle one, the last, and all.
		{row(5, 5), row(0, 0)}, {row(5, 5, 6, 7), row(0, 0, 0, 0)}, {row(5, 6, 6, 7), row(0, 0, 0, 0)}, {row(5, 6, 7, 7), row(0, 0, 0, 0)}, {row(5, 5, 5, 5), row(0, 0, 0, 0)},
		{row(5, 6, 6, 6), row(0, 0, 0, 0)}, {row(5, 5, 6, 6), row(0, 0, 0, 0)}, {row(5, 5, 5, 6), row(0, 0, 0, 0)}, {row(0, most), row(0, 0)}, {row(most-1, most, most), row(0, 0, 0)},
		// Lates that fall and rise, also so that who is sent later would come sooner.
		{row(1, 1, 1), row(9, 4, 0)}, {row(1, 1, 1), row(0, 4, 9)}, {row(1, 2, 3, 4), row(3, 0, most, 1)}, {row(0, 0), row(most, 0)}, {row(0, 0), row(1, 0)},
		// The times do not hang on the lates, and may be below or above them.
		{row(most), row(most)}, {row(0, most), row(most, 0)}, {row(most, most, most), row(most, most, most)},
		// There is no bound to how many there are.
		{make([]int, full-1), make([]int, full-1)}, {make([]int, full), make([]int, full)}, {make([]int, full+1), make([]int, full+1)}, {repeat(5000, most), repeat(5000, most)},
	} {
		checkBool(t, jitter.Right(c[0], c[1]), true, "Right", c[0], c[1])
	}
	for _, c := range wrong() {
		checkBool(t, jitter.Right(c[0], c[1]), false, "Right", c[0], c[1])
	}
}

// Each number by itself: as a late in each place, and as a time where the times do not fall by it.
func TestRightAtEveryPlace(t *testing.T) {
	for _, c := range []struct {
		number int
		want   bool
	}{
		{0, true}, {1, true}, {5, true}, {most - 1, true}, {most, true},
		{-1, false}, {-most, false}, {least + 1, false}, {least, false},
		{most + 1, false}, {2 * most, false}, {inf, false}, {inf + 1, false}, {greatest, false},
	} {
		for length := 1; length < 6; length++ {
			for at := range length {
				late := make([]int, length)
				late[at] = c.number
				times := make([]int, length)
				checkBool(t, jitter.Right(times, late), c.want, "Right", times, late)
				for i := range times {
					if i < at && c.number < 0 || i >= at && c.number > 0 {
						times[i] = c.number
					}
				}
				times[at] = c.number
				checkBool(t, jitter.Right(times, make([]int, length)), c.want, "Right", times, make([]int, length))
			}
		}
	}
}

func TestPass(t *testing.T) {
	for _, c := range []struct {
		times, late, want []int
	}{
		// Ordinary rows: sent at 1 and 2, the first one 5 late, so both come at 6.
		{row(1, 2), row(5, 0), row(6, 6)}, {row(1, 2, 9), row(5, 0, 1), row(6, 6, 10)}, {row(0, 3, 4, 8), row(2, 4, 1, 0), row(2, 7, 7, 8)},
		// None, and one.
		{nil, nil, nil}, {row(), row(), nil}, {nil, row(), nil}, {row(0), row(0), row(0)}, {row(7), row(0), row(7)}, {row(0), row(7), row(7)}, {row(3), row(4), row(7)},
		// None of them late.
		{row(1, 2, 3), row(0, 0, 0), row(1, 2, 3)}, {row(0, 0, 5, 5), row(0, 0, 0, 0), row(0, 0, 5, 5)}, {row(4, 9, most), row(0, 0, 0), row(4, 9, most)},
		// All of them equally late.
		{row(1, 2, 3), row(4, 4, 4), row(5, 6, 7)},
		// One is late, and holds up one, some or all behind it; those ahead of it come as they would.
		{row(1, 2, 5, 9), row(2, 0, 0, 0), row(3, 3, 5, 9)}, {row(1, 2, 5, 9), row(6, 0, 0, 0), row(7, 7, 7, 9)}, {row(1, 2, 5, 9), row(20, 0, 0, 0), row(21, 21, 21, 21)},
		{row(1, 2, 5, 9), row(0, 4, 0, 0), row(1, 6, 6, 9)}, {row(1, 2, 5, 9), row(0, 9, 0, 0), row(1, 11, 11, 11)}, {row(1, 2, 5, 9), row(0, 0, 7, 0), row(1, 2, 12, 12)},
		{row(1, 2, 5, 9), row(0, 0, 0, 8), row(1, 2, 5, 17)},
		// Two are late: who holds up more counts, whichever is first.
		{row(1, 2, 3, 4), row(9, 3, 0, 0), row(10, 10, 10, 10)}, {row(1, 2, 3, 4), row(3, 9, 0, 0), row(4, 11, 11, 11)}, {row(1, 2, 8, 9), row(3, 0, 4, 0), row(4, 4, 12, 12)},
		// Just when it would come anyway, and one more tick late: behind, and by its own lateness.
		{row(1, 4), row(2, 0), row(3, 4)}, {row(1, 4), row(3, 0), row(4, 4)}, {row(1, 4), row(4, 0), row(5, 5)}, {row(1, 4), row(6, 2), row(7, 7)}, {row(1, 4), row(6, 3), row(7, 7)}, {row(1, 4), row(6, 4), row(7, 8)},
		{row(1, 4, 6), row(5, 2, 0), row(6, 6, 6)}, {row(1, 4, 6), row(5, 3, 0), row(6, 7, 7)}, {row(1, 4, 6), row(6, 0, 0), row(7, 7, 7)},
		// Many sent at once: each by itself waits for those ahead of it, not for those behind it.
		{row(3, 3, 3, 3), row(0, 0, 0, 0), row(3, 3, 3, 3)}, {row(3, 3, 3, 3), row(5, 0, 0, 0), row(8, 8, 8, 8)}, {row(3, 3, 3, 3), row(0, 0, 5, 0), row(3, 3, 8, 8)}, {row(3, 3, 3, 3), row(0, 0, 0, 5), row(3, 3, 3, 8)},
		{row(0, 0, 0), row(2, 1, 3), row(2, 2, 3)}, {row(3, 3, 9, 9), row(4, 2, 0, 1), row(7, 7, 9, 10)},
		// Lates that fall: by less than the times rise, just so, by more.
		{row(0, 2, 4), row(5, 4, 3), row(5, 6, 7)}, {row(0, 2, 4), row(5, 3, 1), row(5, 5, 5)}, {row(0, 2, 4), row(6, 3, 0), row(6, 6, 6)}, {row(5, 5, 5), row(9, 4, 0), row(14, 14, 14)},
		// Lates that rise, and that go up and down.
		{row(0, 2, 4), row(0, 1, 5), row(0, 3, 9)}, {row(5, 5, 5), row(0, 4, 9), row(5, 9, 14)}, {row(0, 1, 2, 3, 4, 5), row(3, 0, 4, 0, 5, 0), row(3, 3, 6, 6, 9, 9)},
		{row(0, 1, 2, 3, 4, 5), row(0, 3, 0, 4, 0, 5), row(0, 4, 4, 7, 7, 10)}, {row(0, 1, 2, 3, 4), row(1, 9, 2, 7, 8), row(1, 10, 10, 10, 12)},
		// Times and lates of 0 and of Most together: no end at Most.
		{row(0, 0), row(0, 0), row(0, 0)}, {row(0), row(most), row(most)}, {row(most), row(0), row(most)}, {row(most), row(most), row(2 * most)}, {row(0, most), row(most, 3), row(most, most+3)},
		{row(0, most), row(most, 0), row(most, most)}, {row(0, most), row(0, most), row(0, 2*most)}, {row(0, most, most), row(most, most, 0), row(most, 2*most, 2*most)}, {row(1, most), row(most, 0), row(most+1, most+1)},
		{row(most, most, most), row(0, 0, most), row(most, most, 2*most)}, {row(most, most), row(most, most), row(2*most, 2*most)}, {row(0, 0, most-1), row(0, most, 1), row(0, most, most)}, {row(0, 0, most-1), row(0, most, 2), row(0, most, most+1)},
		// There is no bound to how many there are.
		{repeat(5000, most), repeat(5000, most), repeat(5000, 2*most)}, {make([]int, 5000), repeat(4999, 0, most), repeat(5000, most)}, {make([]int, full+1), repeat(full, 4, 3), repeat(full, 4, 3)},
	} {
		check(t, jitter.Pass(c.times, c.late), c.want, "Pass", c.times, c.late)
	}
	for _, c := range wrong() {
		check(t, jitter.Pass(c[0], c[1]), nil, "Pass", c[0], c[1])
	}
}

func TestDelays(t *testing.T) {
	for _, c := range []struct {
		times, came, want []int
	}{
		// Ordinary rows: when it is sent, before it and after it.
		{row(1, 2, 9), row(6, 6, 10), row(5, 4, 1)}, {row(1, 2, 3), row(1, 2, 3), row(0, 0, 0)}, {row(4, 4, 4), row(3, 4, 5), row(-1, 0, 1)}, {row(1, 2, 9), row(5, 0, 1), row(4, -2, -8)},
		{row(0), row(0), row(0)}, {row(7), row(0), row(-7)}, {row(0), row(7), row(7)},
		// No rows, and rows of which either is longer.
		{nil, nil, nil}, {row(), nil, nil}, {nil, row(), nil}, {row(1), nil, nil}, {nil, row(1), nil}, {row(1, 2, 3), row(), nil}, {row(), row(1, 2, 3), nil},
		{row(1, 2), row(5), row(4)}, {row(1), row(5, 6), row(4)}, {row(1, 2, 3, 4), row(9, 9), row(8, 7)}, {row(1, 2), row(9, 9, 9, 9), row(8, 7)},
		// Rows that are not Right are told as any others: times that fall, numbers below 0 and above Most.
		{row(5, 3, 4), row(6, 6, 6), row(1, 3, 2)}, {row(-3, -3), row(-1, -9), row(2, -6)}, {row(-4), row(4), row(8)}, {row(4), row(-4), row(-8)},
		{row(0, most), row(most, 0), row(most, -most)}, {row(most+1, 0), row(0, most+1), row(-most-1, most+1)}, {row(0, inf), row(inf+1, 0), row(inf+1, -inf)}, {row(inf, -inf), row(-inf, inf), row(-2*inf, 2*inf)},
		// The least and the greatest on either side: just within 2^63, and beyond, where it goes round.
		{row(0), row(greatest), row(greatest)}, {row(0), row(least), row(least)}, {row(greatest), row(0), row(-greatest)}, {row(least), row(0), row(least)},
		{row(1), row(least), row(greatest)}, {row(1), row(least + 1), row(least)}, {row(2), row(least), row(greatest - 1)}, {row(-1), row(greatest), row(least)}, {row(-2), row(greatest), row(least + 1)}, {row(-1), row(greatest - 1), row(greatest)},
		{row(greatest), row(-1), row(least)}, {row(greatest), row(-2), row(greatest)}, {row(greatest), row(1), row(-greatest + 1)}, {row(least), row(-1), row(greatest)}, {row(least), row(1), row(least + 1)}, {row(least), row(least + 1), row(1)},
		{row(least), row(greatest), row(-1)}, {row(greatest), row(least), row(1)}, {row(least), row(least), row(0)}, {row(greatest), row(greatest), row(0)}, {row(least), row(greatest - 1), row(-2)},
		{row(3, least, 3, greatest), row(4, greatest, 1, least), row(1, -1, -2, 1)},
		// There is no bound to how many there are.
		{repeat(5000, 3), repeat(5000, 7), repeat(5000, 4)}, {repeat(full+1, 3), repeat(full+2, 2), repeat(full+1, -1)},
	} {
		check(t, jitter.Delays(c.times, c.came), c.want, "Delays", c.times, c.came)
	}
}

// rows gives every row of up to longest numbers of values.
func rows(longest int, values ...int) func(yield func([]int) bool) {
	return func(yield func([]int) bool) {
		count := 1
		for length := range longest + 1 {
			for code := range count {
				l := make([]int, length)
				for i := range l {
					l[i] = values[code%len(values)]
					code /= len(values)
				}
				if !yield(l) {
					return
				}
			}
			count *= len(values)
		}
	}
}

func rightByWords(times, late []int) bool {
	for _, number := range slices.Concat(times, late) {
		if number < 0 || number > most {
			return false
		}
	}
	for i := range times {
		if i > 0 && times[i] < times[i-1] {
			return false
		}
	}
	return len(times) == len(late)
}

// passByWords asks for each packet all that were sent up to it.
func passByWords(times, late []int) []int {
	if !rightByWords(times, late) {
		return nil
	}
	var out []int
	for upTo := range times {
		var all []int
		for i := range upTo + 1 {
			all = append(all, times[i]+late[i])
		}
		out = append(out, slices.Max(all))
	}
	return out
}

// delaysByWords leaves the rest of 2^64 with a sign to numbers without an end.
func delaysByWords(times, came []int) []int {
	round := new(big.Int).Lsh(big.NewInt(1), 64)
	half := new(big.Int).Lsh(big.NewInt(1), 63)
	var out []int
	for i := range min(len(times), len(came)) {
		more := new(big.Int).Sub(big.NewInt(int64(came[i])), big.NewInt(int64(times[i])))
		more.Add(more, half).Mod(more, round).Sub(more, half)
		out = append(out, int(more.Int64()))
	}
	return out
}

func checkAll(t *testing.T, times, late []int) {
	t.Helper()
	checkBool(t, jitter.Right(times, late), rightByWords(times, late), "Right", times, late)
	check(t, jitter.Pass(times, late), passByWords(times, late), "Pass", times, late)
	check(t, jitter.Delays(times, late), delaysByWords(times, late), "Delays", times, late)
}

func TestAllShortRows(t *testing.T) {
	for times := range rows(4, 0, 1, 3, 4) {
		for late := range rows(4, 0, 1, 2, 5) {
			checkAll(t, times, late)
		}
	}
}

func TestAllShortRowsAtTheEdges(t *testing.T) {
	for times := range rows(2, least, least+1, -1, 0, 1, most-1, most, most+1, inf, greatest-1, greatest) {
		for late := range rows(2, least, least+1, -1, 0, 1, most-1, most, most+1, inf, greatest-1, greatest) {
			checkAll(t, times, late)
		}
	}
	for times := range rows(3, -1, 0, most, most+1) {
		for late := range rows(3, -1, 0, most, most+1) {
			checkAll(t, times, late)
		}
	}
}

func TestLongRows(t *testing.T) {
	times, late := make([]int, 1000), make([]int, 1000)
	for i := range times {
		times[i] = i * i / 100
		late[i] = i * i * 31 % 173 * (i / 50 % 2)
	}
	checkAll(t, times, late)
}

// Nobody overtakes; nobody comes ahead of when it would, and each comes when it, or one ahead of it, would.
func TestNobodyOvertakes(t *testing.T) {
	for times := range rows(4, 0, 2, 3, most) {
		for late := range rows(4, 0, 1, 4, most) {
			came := jitter.Pass(times, late)
			if !slices.IsSorted(came) {
				t.Errorf("Pass of %v, %v is %v: one overtakes", times, late, came)
			}
			for i, delay := range jitter.Delays(times, came) {
				if delay < late[i] || came[i] != times[i]+late[i] && (i == 0 || came[i] != came[i-1]) {
					t.Errorf("Pass of %v, %v is %v", times, late, came)
				}
			}
		}
	}
}

// Who already comes in order is held up no more: as late as they came, they come so again.
func TestPassOfWhatCame(t *testing.T) {
	for times := range rows(4, 0, 2, 3, 9) {
		for late := range rows(4, 0, 1, 4, 7) {
			came := jitter.Pass(times, late)
			check(t, jitter.Pass(times[:len(came)], jitter.Delays(times, came)), came, "Pass", times, late)
		}
	}
}

// Neither the rows nor the room behind them change or count, and what is answered is the caller's own.
func TestHandedIn(t *testing.T) {
	timesWas, lateWas := row(1, 2, 9, 0), row(5, 0, 1, -1)
	times, late := slices.Clone(timesWas), slices.Clone(lateWas)
	checkBool(t, jitter.Right(times[:3], late[:3]), true, "Right", times[:3], late[:3])
	checkBool(t, jitter.Right(times[:3], late[:2]), false, "Right", times[:3], late[:2])
	came := jitter.Pass(times[:3], late[:3])
	delays := jitter.Delays(times[:3], late[:2])
	check(t, times, timesWas, "what was handed in")
	check(t, late, lateWas, "what was handed in")
	clear(times)
	clear(late)
	came, delays = append(came, 7), append(delays, 8)
	check(t, came, row(6, 6, 10, 7), "what was answered")
	check(t, delays, row(4, -2, 8), "what was answered")
	clear(came)
	clear(delays)
	check(t, times, make([]int, 4), "what was handed in")
	check(t, late, make([]int, 4), "what was handed in")
	check(t, jitter.Pass(row(1, 2, 9), row(5, 0, 1)), row(6, 6, 10), "Pass again")
}

// One row handed in as both.
func TestOneRowTwice(t *testing.T) {
	both := row(0, 2, 5)
	checkBool(t, jitter.Right(both, both), true, "Right", both, both)
	check(t, jitter.Pass(both, both), row(0, 4, 10), "Pass", both, both)
	check(t, jitter.Delays(both, both), row(0, 0, 0), "Delays", both, both)
	check(t, both, row(0, 2, 5), "what was handed in")
}
