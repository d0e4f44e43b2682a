package bucket_test

import (
	"math"
	"slices"
	"testing"

	"tidewait/api"
	"tidewait/bucket"
	"tidewait/curve"
	"tidewait/minplus"
)

const (
	least    = math.MinInt
	greatest = math.MaxInt
	most     = api.Most
	inf      = api.Inf
	full     = api.MaxLength
)

func row(l ...int) []int { return l }

func of(rate, burst int) api.Bucket { return api.Bucket{Rate: rate, Burst: burst} }

// repeat puts so many numbers behind what stands ahead of them.
func repeat(count, number int, ahead ...int) []int {
	return append(ahead, slices.Repeat(row(number), count)...)
}

func check(t *testing.T, got, want []int, name string, of ...any) {
	t.Helper()
	if !slices.Equal(got, want) {
		t.Errorf("%s of %v is %v, not %v", name, of, got, want)
	}
}

func checkBool(t *testing.T, got, want bool, name string, of ...any) {
	t.Helper()
	if got != want {
		t.Errorf("%s of %v is %v, not %v", name, of, got, want)
	}
}

func TestRight(t *testing.T) {
	// Each number by itself, as a Rate, a Burst, and a step in each of its places.
	for _, c := range []struct {
		number int
		want   bool
	}{
		{0, true}, {1, true}, {5, true}, {most - 1, true}, {most, true},
		{-1, false}, {-most, false}, {least + 1, false}, {least, false},
		{most + 1, false}, {2 * most, false}, {inf, false}, {inf + 1, false}, {greatest, false},
	} {
		for _, steps := range [][]int{nil, row(), row(0), row(3, 0, most), make([]int, full-1)} {
			checkBool(t, bucket.Right(of(c.number, 4), steps), c.want, "Right", c.number, 4, steps)
			checkBool(t, bucket.Right(of(4, c.number), steps), c.want, "Right", 4, c.number, steps)
			checkBool(t, bucket.Right(of(c.number, c.number), steps), c.want, "Right", c.number, c.number, steps)
			for at := range steps {
				other := slices.Clone(steps)
				other[at] = c.number
				checkBool(t, bucket.Right(of(4, 4), other), c.want, "Right", 4, 4, other)
			}
		}
	}
	// One number that is wrong beside others that would make up for it.
	checkBool(t, bucket.Right(of(-1, most+1), nil), false, "Right")
	checkBool(t, bucket.Right(of(most, -1), row(most, 1)), false, "Right")
	checkBool(t, bucket.Right(of(1, 1), row(-1, 1)), false, "Right")
	// The sum of steps may be as much as it likes.
	checkBool(t, bucket.Right(of(0, 0), row(most, most, most)), true, "Right")
	checkBool(t, bucket.Right(of(most, most), repeat(full-1, most)), true, "Right")
	for length, want := range map[int]bool{0: true, 1: true, full - 2: true, full - 1: true, full: false, full + 1: false, 5000: false} {
		for _, number := range row(0, 7, most) {
			checkBool(t, bucket.Right(of(2, 3), repeat(length, number)), want, "Right", length, number)
		}
	}
}

func TestLine(t *testing.T) {
	for _, c := range []struct {
		rate, burst int
		want        []int
	}{
		// Rate below Burst, at it, by one above it, and far above it.
		{2, 3, row(0, 3, 5, 7, 9)}, {1, 7, row(0, 7, 8, 9, 10)}, {3, 3, row(0, 3, 6, 9, 12)}, {4, 3, row(0, 3, 6, 9, 12)}, {5, 3, row(0, 3, 6, 9, 12)},
		{most, 3, row(0, 3, 6, 9, 12)}, {2, 2, row(0, 2, 4, 6, 8)}, {1, 2, row(0, 2, 3, 4, 5)},
		// Either of them 0.
		{0, 0, row(0, 0, 0, 0, 0)}, {0, 4, row(0, 4, 4, 4, 4)}, {1, 0, row(0, 0, 0, 0, 0)}, {most, 0, row(0, 0, 0, 0, 0)},
		// Either of them Most, which sums go beyond.
		{0, most, row(0, most, most, most, most)}, {2, most, row(0, most, most+2, most+4, most+6)}, {most, 1, row(0, 1, 2, 3, 4)},
		{most, most, row(0, most, 2*most, 3*most, 4*most)}, {most - 1, most, row(0, most, 2*most-1, 3*most-2, 4*most-3)},
		// Buckets that are not Right.
		{-1, 2, nil}, {2, -1, nil}, {-1, -1, nil}, {least, 2, nil}, {2, least, nil}, {-1, 0, nil}, {0, -1, nil},
		{most + 1, 2, nil}, {1, most + 1, nil}, {inf, 1, nil}, {1, inf, nil}, {greatest, 2, nil}, {2, greatest, nil}, {greatest, greatest, nil},
	} {
		b := of(c.rate, c.burst)
		check(t, bucket.Line(b, 5), c.want, "Line", b, 5)
		for n := range len(c.want) {
			check(t, bucket.Line(b, n), c.want[:n], "Line", b, n)
		}
		for _, n := range row(least, least+1, -300, -1, 0) {
			check(t, bucket.Line(b, n), nil, "Line", b, n)
		}
		for _, n := range row(17, full-1, full, full+1, 999, most, inf, greatest) {
			check(t, bucket.Line(b, n), lineByWords(b, min(n, full)), "Line", b, n)
		}
	}
	line := bucket.Line(of(most-2, most), greatest)
	if len(line) != full || line[full-1] != full*most-most-2*(full-2) {
		t.Errorf("Line ends with %v", line)
	}
}

func TestSteps(t *testing.T) {
	for _, c := range []struct {
		rate, burst int
		steps       []int
		keeps       bool
		pass        []int
	}{
		// Ordinary steps: those that wait, and those that need not.
		{2, 3, row(9, 0, 0, 0, 0), false, row(3, 2, 2, 2, 0)}, {2, 3, row(0, 0, 6, 1), false, row(0, 0, 3, 2)},
		{2, 3, row(1, 2, 2, 1), true, row(1, 2, 2, 1)}, {2, 5, row(4, 1, 9, 0, 0, 0), false, row(4, 1, 4, 2, 2, 1)},
		// No steps, and one: at what the bucket holds, and by one above.
		{2, 3, nil, true, nil}, {0, 0, row(), true, nil}, {most, most, nil, true, nil},
		{2, 3, row(0), true, row(0)}, {2, 3, row(2), true, row(2)}, {2, 3, row(3), true, row(3)}, {2, 3, row(4), false, row(3)}, {2, 3, row(most), false, row(3)},
		// Just what the line has, and one more: in each place, and by one less ahead of it.
		{2, 3, row(3, 2, 2), true, row(3, 2, 2)}, {2, 3, row(4, 2, 2), false, row(3, 2, 2)}, {2, 3, row(3, 3, 2), false, row(3, 2, 2)}, {2, 3, row(3, 2, 3), false, row(3, 2, 2)},
		{2, 3, row(2, 3, 2), true, row(2, 3, 2)}, {2, 3, row(2, 2, 3), true, row(2, 2, 3)}, {2, 3, row(2, 3, 3), false, row(2, 3, 2)}, {2, 3, row(3, 1, 3), true, row(3, 1, 3)},
		{2, 3, row(3, 1, 4), false, row(3, 1, 3)}, {2, 3, row(3, 3), false, row(3, 2)}, {2, 3, row(2, 2, 2, 2, 3), true, row(2, 2, 2, 2, 3)},
		{2, 3, row(2, 2, 2, 2, 4), false, row(2, 2, 2, 2, 3)}, {2, 3, row(3, 2, 2, 2, 3), false, row(3, 2, 2, 2, 2)},
		// Too much only of several ticks, neither from the first one on nor up to the last one.
		{1, 9, row(0, 5, 5, 0, 0), true, row(0, 5, 5, 0, 0)}, {1, 9, row(0, 5, 5, 1, 0), true, row(0, 5, 5, 1, 0)}, {1, 9, row(0, 5, 6, 0, 0), false, row(0, 5, 5, 1, 0)},
		{1, 9, row(0, 4, 4, 4, 0, 0), false, row(0, 4, 4, 3, 1, 0)}, {1, 9, row(0, 4, 4, 3, 0, 0), true, row(0, 4, 4, 3, 0, 0)},
		{3, 9, row(6, 0, 6, 6, 6, 0, 6), false, row(6, 0, 6, 6, 3, 3, 3)},
		// The bucket fills up again, in part, to the brim, and no more than that.
		{2, 6, row(6, 0, 0, 0, 6), true, row(6, 0, 0, 0, 6)}, {2, 6, row(6, 0, 0, 6), true, row(6, 0, 0, 6)}, {2, 6, row(6, 0, 6), false, row(6, 0, 4)},
		{2, 6, row(6, 0, 0, 0, 0, 0, 0, 7, 0), false, row(6, 0, 0, 0, 0, 0, 0, 6, 1)}, {2, 5, row(5, 0, 0, 5, 2), true, row(5, 0, 0, 5, 2)}, {2, 5, row(5, 0, 0, 5, 3), false, row(5, 0, 0, 5, 2)},
		{2, 5, row(0, 0, 0, 6, 0), false, row(0, 0, 0, 5, 1)}, {1, 4, row(2, 0, 4, 1, 0), true, row(2, 0, 4, 1, 0)}, {1, 4, row(3, 0, 4, 0), false, row(3, 0, 3, 1)},
		{2, 6, row(9, 0, 0, 0, 0, 7, 0), false, row(6, 2, 1, 0, 0, 6, 1)},
		// What comes waits behind all that waits, also while more comes.
		{2, 3, row(9, 9, 0, 0, 1), false, row(3, 2, 2, 2, 2)}, {1, 1, row(5, 0, 2, 0, 0, 0, 0, 0), false, row(1, 1, 1, 1, 1, 1, 1, 0)},
		{3, 4, row(5, 5, 0, 2, 0), false, row(4, 3, 3, 2, 0)},
		// A Rate of 0: what the bucket holds at first is all.
		{0, 4, row(9, 0, 0), false, row(4, 0, 0)}, {0, 4, row(3, 2, 2), false, row(3, 1, 0)}, {0, 4, row(1, 0, 3), true, row(1, 0, 3)}, {0, 4, row(1, 0, 4), false, row(1, 0, 3)},
		{0, 4, row(1, 1, 1, 1), true, row(1, 1, 1, 1)}, {0, 4, row(1, 1, 1, 1, 1), false, row(1, 1, 1, 1, 0)}, {0, 4, row(0, 0), true, row(0, 0)},
		// A Burst of 0: nothing goes, whatever the Rate is.
		{0, 0, row(0, 0, 0), true, row(0, 0, 0)}, {0, 0, row(1), false, row(0)}, {0, 0, row(3, 2), false, row(0, 0)}, {1, 0, row(0, 1, 0), false, row(0, 0, 0)},
		{most, 0, row(most, 1), false, row(0, 0)}, {most, 0, row(0, 0), true, row(0, 0)},
		// A Rate at Burst, and above it: no more than Burst at any tick.
		{3, 3, row(3, 3, 3), true, row(3, 3, 3)}, {3, 3, row(3, 4, 3), false, row(3, 3, 3)}, {5, 3, row(3, 3), true, row(3, 3)}, {5, 3, row(0, 4), false, row(0, 3)},
		{5, 3, row(9, 0, 0, 0), false, row(3, 3, 3, 0)}, {most, 3, row(2, 3, 1), true, row(2, 3, 1)}, {most, 3, row(0, 0, 8), false, row(0, 0, 3)},
		{most - 1, 1, row(1, 2, 1), false, row(1, 1, 1)},
		// Numbers at Most.
		{most, most, row(most, most, most), true, row(most, most, most)}, {most - 1, most, row(most, most, 0), false, row(most, most-1, 1)},
		{most - 1, most, row(most, most-1, most-1), true, row(most, most-1, most-1)}, {0, most, row(most, 1), false, row(most, 0)}, {0, most, row(most-1, 1), true, row(most-1, 1)},
		{1, most, row(most, 1, 1), true, row(most, 1, 1)}, {1, most, row(most, 1, 2), false, row(most, 1, 1)}, {most, most - 1, row(most, most), false, row(most-1, most-1)},
		{0, 0, row(most, most), false, row(0, 0)}, {most, 1, row(most, most), false, row(1, 1)},
		// Steps that are not Right, by each number alone, where the bucket would let them through.
		{2, 3, row(-1), false, nil}, {2, 3, row(1, -1, 1), false, nil}, {2, 3, row(1, 1, least), false, nil}, {most, most, row(most + 1), false, nil},
		{most, most, row(1, inf), false, nil}, {2, 3, row(greatest), false, nil}, {2, 3, row(greatest, greatest, 1), false, nil}, {2, 3, row(1, 0, 0, -1), false, nil},
		{-1, 3, row(1), false, nil}, {2, -1, row(0), false, nil}, {least, 3, row(1), false, nil}, {2, least, row(0), false, nil},
		{most + 1, 3, row(1), false, nil}, {2, most + 1, row(1), false, nil}, {greatest, 3, row(1), false, nil}, {2, greatest, row(1), false, nil},
		{-1, 3, nil, false, nil}, {3, most + 1, nil, false, nil}, {2, 3, make([]int, full), false, nil}, {2, 3, make([]int, full+1), false, nil},
		// As many steps as there may be.
		{2, 3, make([]int, full-1), true, make([]int, full-1)}, {1, 1, repeat(full-2, 0, most), false, repeat(full-1, 1)},
		{2, 3, repeat(full-2, 2, 3), true, repeat(full-2, 2, 3)}, {2, 3, append(repeat(full-3, 2, 3), 3), false, repeat(full-2, 2, 3)},
		{2, 3, repeat(full-2, 2, 4), false, repeat(full-2, 2, 3)}, {0, 298, repeat(full-2, 1), true, repeat(full-2, 1)},
		{0, 298, repeat(full-1, 1), false, append(repeat(full-2, 1), 0)}, {most, most, repeat(full-1, most), true, repeat(full-1, most)},
		{1, 3, repeat(100, 0, 50), false, append(repeat(47, 1, 3), make([]int, 53)...)},
		{most - 1, most - 1, repeat(full-1, most), false, repeat(full-1, most-1)},
	} {
		b := of(c.rate, c.burst)
		check(t, bucket.Pass(b, c.steps), c.pass, "Pass", b, c.steps)
		checkBool(t, bucket.Keeps(b, c.steps), c.keeps, "Keeps", b, c.steps)
	}
}

// rows gives every row of up to longest numbers of values.
func rows(longest int, values ...int) func(yield func([]int) bool) {
	return func(yield func([]int) bool) {
		count := 1
		for length := range longest + 1 {
			for code := range count {
				l := make([]int, length)
				for i := range l {
					l[i] = values[code%len(values)]
					code /= len(values)
				}
				if !yield(l) {
					return
				}
			}
			count *= len(values)
		}
	}
}

// buckets gives every bucket whose Rate and Burst are of values.
func buckets(values ...int) func(yield func(api.Bucket) bool) {
	return func(yield func(api.Bucket) bool) {
		for _, rate := range values {
			for _, burst := range values {
				if !yield(of(rate, burst)) {
					return
				}
			}
		}
	}
}

func rightByWords(b api.Bucket, steps []int) bool {
	for _, number := range append(row(b.Rate, b.Burst), steps...) {
		if number < 0 || number > most {
			return false
		}
	}
	return len(steps) < full
}

func lineByWords(b api.Bucket, n int) []int {
	if !rightByWords(b, nil) {
		return nil
	}
	out := row(0, b.Burst)
	for len(out) < n {
		out = append(out, out[len(out)-1]+min(b.Rate, b.Burst))
	}
	return out[:n]
}

func keepsByWords(b api.Bucket, steps []int) bool {
	line := lineByWords(b, len(steps)+1)
	for from := range steps {
		sum := 0
		for upTo := from; upTo < len(steps); upTo++ {
			sum += steps[upTo]
			if sum > line[upTo-from+1] {
				return false
			}
		}
	}
	return true
}

// passByOnes lets one through after the other, and fills the bucket likewise.
func passByOnes(b api.Bucket, steps []int) []int {
	out := make([]int, len(steps))
	waits, holds := 0, b.Burst
	for t, step := range steps {
		for waits += step; waits > 0 && holds > 0; waits-- {
			holds--
			out[t]++
		}
		for more := 0; more < b.Rate && holds < b.Burst; more++ {
			holds++
		}
	}
	return out
}

func TestAllShortSteps(t *testing.T) {
	for b := range buckets(0, 1, 2, 3, 5) {
		for steps := range rows(5, 0, 1, 2, 3, 4, 9) {
			check(t, bucket.Pass(b, steps), passByOnes(b, steps), "Pass", b, steps)
			checkBool(t, bucket.Keeps(b, steps), keepsByWords(b, steps), "Keeps", b, steps)
		}
	}
}

func TestAllWrongSteps(t *testing.T) {
	values := row(least, -1, 0, 1, most-1, most, most+1, inf, greatest)
	for b := range buckets(values...) {
		for steps := range rows(3, values...) {
			right := rightByWords(b, steps)
			checkBool(t, bucket.Right(b, steps), right, "Right", b, steps)
			checkBool(t, bucket.Keeps(b, steps), right && keepsByWords(b, steps), "Keeps", b, steps)
			want := 0
			if right {
				want = len(steps)
			}
			if got := bucket.Pass(b, steps); len(got) != want {
				t.Errorf("Pass of %v, %v is %v", b, steps, got)
			}
		}
	}
}

// A bucket is its line: what has gone is the least sum of what has come and the line.
func TestBucketIsItsLine(t *testing.T) {
	byLine := func(b api.Bucket, steps []int) []int {
		return curve.Steps(minplus.Conv(curve.Of(steps), lineByWords(b, len(steps)+1)))
	}
	for b := range buckets(0, 1, 2, 7, most-1, most) {
		for steps := range rows(4, 0, 1, 5, most-1, most) {
			check(t, bucket.Pass(b, steps), byLine(b, steps), "Pass", b, steps)
		}
		steps := make([]int, full-1)
		for i := range steps {
			steps[i] = i * i * 31 % 17 * (i % 3) * (i / 100)
		}
		check(t, bucket.Pass(b, steps), byLine(b, steps), "Pass", b, steps)
		checkBool(t, bucket.Keeps(b, steps), keepsByWords(b, steps), "Keeps", b, steps)
	}
}

// What goes keeps to the line, and nobody who keeps to it lets more through, or the same earlier.
func TestNobodyLetsMoreThrough(t *testing.T) {
	for b := range buckets(0, 1, 2, 3) {
		for steps := range rows(4, 0, 1, 2, 5) {
			got := bucket.Pass(b, steps)
			checkBool(t, bucket.Keeps(b, got), true, "Keeps", b, got)
			check(t, bucket.Pass(b, got), got, "Pass", b, got)
			checkBool(t, slices.Equal(got, steps), bucket.Keeps(b, steps), "Pass changes nothing", b, steps)
			come, gone := curve.Of(steps), curve.Of(got)
			for other := range rows(4, 0, 1, 2, 3) {
				if len(other) != len(steps) || !keepsByWords(b, other) || !curve.Within(curve.Of(other), come) {
					continue
				}
				if !curve.Within(curve.Of(other), gone) {
					t.Errorf("Pass of %v, %v is %v, but there is %v", b, steps, got, other)
				}
			}
		}
	}
}

// Neither the steps nor the room behind them change or count, and what is answered is the caller's own.
func TestHandedIn(t *testing.T) {
	b, was := of(2, 4), row(3, 1, 2, 9, -1)
	steps := slices.Clone(was)
	checkBool(t, bucket.Right(b, steps[:3]), true, "Right", b, steps[:3])
	checkBool(t, bucket.Keeps(b, steps[:3]), true, "Keeps", b, steps[:3])
	passed, waited, line := bucket.Pass(b, steps[:3]), bucket.Pass(b, steps[:4]), bucket.Line(b, 4)
	check(t, steps, was, "what was handed in")
	clear(steps)
	check(t, passed, row(3, 1, 2), "what was answered")
	check(t, waited, row(3, 1, 2, 4), "what was answered")
	clear(line)
	check(t, bucket.Line(b, 4), row(0, 4, 6, 8), "Line", b, 4)
	room := make([]int, 2, full+5)
	checkBool(t, bucket.Right(b, room), true, "Right", b, room)
}
