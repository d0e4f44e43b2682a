package queue_test

import (
	"math"
	"slices"
	"testing"

	"tidewait/api"
	"tidewait/bucket"
	"tidewait/queue"
)

const (
	least    = math.MinInt
	greatest = math.MaxInt
	most     = api.Most
	inf      = api.Inf
	full     = api.MaxLength
	part     = most / 4
)

func row(l ...int) []int { return l }

// repeat puts so many numbers behind what stands ahead of them.
func repeat(count, number int, ahead ...int) []int {
	return append(ahead, slices.Repeat(row(number), count)...)
}

func check(t *testing.T, got, want []int, name string, of ...any) {
	t.Helper()
	if !slices.Equal(got, want) {
		t.Errorf("%s of %v is %v, not %v", name, of, got, want)
	}
}

func checkBool(t *testing.T, got, want bool, name string, of ...any) {
	t.Helper()
	if got != want {
		t.Errorf("%s of %v is %v, not %v", name, of, got, want)
	}
}

func checkPlay(t *testing.T, rate, room int, steps, wentWant, lostWant, waitsWant []int) {
	t.Helper()
	went, lost, waits := queue.Play(rate, room, steps)
	check(t, went, wentWant, "Play: what went", rate, room, steps)
	check(t, lost, lostWant, "Play: what was lost", rate, room, steps)
	check(t, waits, waitsWant, "Play: what waits", rate, room, steps)
}

func TestRight(t *testing.T) {
	// Each number by itself, as a rate, a room, and a step in each of its places.
	for _, c := range []struct {
		number int
		want   bool
	}{
		{0, true}, {1, true}, {5, true}, {most - 1, true}, {most, true},
		{-1, false}, {-most, false}, {least + 1, false}, {least, false},
		{most + 1, false}, {2 * most, false}, {inf, false}, {inf + 1, false}, {greatest, false},
	} {
		for _, steps := range [][]int{nil, row(), row(0), row(3, 0, most), make([]int, full-1)} {
			checkBool(t, queue.Right(c.number, 4, steps), c.want, "Right", c.number, 4, steps)
			checkBool(t, queue.Right(4, c.number, steps), c.want, "Right", 4, c.number, steps)
			checkBool(t, queue.Right(c.number, c.number, steps), c.want, "Right", c.number, c.number, steps)
			for at := range steps {
				other := slices.Clone(steps)
				other[at] = c.number
				checkBool(t, queue.Right(4, 4, other), c.want, "Right", 4, 4, other)
			}
		}
	}
	// One number that is wrong beside others that would make up for it.
	checkBool(t, queue.Right(-1, most+1, nil), false, "Right")
	checkBool(t, queue.Right(most, -1, row(most, 1)), false, "Right")
	checkBool(t, queue.Right(1, 1, row(-1, 1)), false, "Right")
	// The sum of steps may be as much as it likes, and more than the room.
	checkBool(t, queue.Right(0, 0, row(most, most, most)), true, "Right")
	checkBool(t, queue.Right(most, most, repeat(full-1, most)), true, "Right")
	for length, want := range map[int]bool{0: true, 1: true, full - 2: true, full - 1: true, full: false, full + 1: false, 5000: false} {
		for _, number := range row(0, 7, most) {
			checkBool(t, queue.Right(2, 3, repeat(length, number)), want, "Right", length, number)
		}
	}
}

func TestPlay(t *testing.T) {
	for _, c := range []struct {
		rate, room        int
		steps             []int
		went, lost, waits []int
	}{
		// Ordinary steps: seven at once, two a tick, room for three; and those that need not wait.
		{2, 3, row(7, 0, 0, 0), row(2, 2, 1, 0), row(2, 0, 0, 0), row(3, 1, 0, 0)}, {2, 3, row(1, 2, 0, 2), row(1, 2, 0, 2), row(0, 0, 0, 0), row(0, 0, 0, 0)},
		{3, 9, row(5, 1, 4, 0), row(3, 3, 3, 1), row(0, 0, 0, 0), row(2, 0, 1, 0)}, {2, 5, row(3, 4, 0, 6, 0), row(2, 2, 2, 2, 2), row(0, 0, 0, 0, 0), row(1, 3, 1, 5, 3)},
		// No steps, and one: below the rate, at it, above it, up to the room and beyond.
		{2, 3, nil, nil, nil, nil}, {0, 0, row(), nil, nil, nil}, {most, most, nil, nil, nil, nil},
		{2, 3, row(0), row(0), row(0), row(0)}, {2, 3, row(1), row(1), row(0), row(0)}, {2, 3, row(2), row(2), row(0), row(0)}, {2, 3, row(3), row(2), row(0), row(1)},
		{2, 3, row(5), row(2), row(0), row(3)}, {2, 3, row(6), row(2), row(1), row(3)}, {2, 3, row(most), row(2), row(most - 5), row(3)},
		// A rate of 0: nothing goes; up to the room it waits, the rest is lost.
		{0, 3, row(0, 0), row(0, 0), row(0, 0), row(0, 0)}, {0, 3, row(2, 0, 1), row(0, 0, 0), row(0, 0, 0), row(2, 2, 3)}, {0, 3, row(2, 2, 1), row(0, 0, 0), row(0, 1, 1), row(2, 3, 3)},
		{0, 0, row(0, 4, 1), row(0, 0, 0), row(0, 4, 1), row(0, 0, 0)}, {0, most, row(most, 1, 0), row(0, 0, 0), row(0, 1, 0), row(most, most, most)},
		// A rate of Most: whatever comes goes at once.
		{most, 3, row(7, 0, most), row(7, 0, most), row(0, 0, 0), row(0, 0, 0)}, {most, 0, row(most, most, 1), row(most, most, 1), row(0, 0, 0), row(0, 0, 0)},
		{most, most, row(most, most), row(most, most), row(0, 0), row(0, 0)}, {most - 1, most, row(most, most, 0), row(most-1, most-1, 2), row(0, 0, 0), row(1, 2, 0)},
		{most - 1, 1, row(most, most, 0), row(most-1, most-1, 1), row(0, 1, 0), row(1, 1, 0)},
		// A room of 0: nothing waits, what does not go at once is lost.
		{2, 0, row(1, 2, 0), row(1, 2, 0), row(0, 0, 0), row(0, 0, 0)}, {2, 0, row(3, 2, 7), row(2, 2, 2), row(1, 0, 5), row(0, 0, 0)}, {most - 1, 0, row(most, 1), row(most-1, 1), row(1, 0), row(0, 0)},
		// A room of Most: what waits may become so much, and no more.
		{1, most, row(most, 1, 0), row(1, 1, 1), row(0, 0, 0), row(most-1, most-1, most-2)}, {1, most, row(most, 2, 0), row(1, 1, 1), row(0, 0, 0), row(most-1, most, most-1)},
		{1, most, row(most, 3, 0), row(1, 1, 1), row(0, 1, 0), row(most-1, most, most-1)}, {0, most, row(most, most, most), row(0, 0, 0), row(0, most, most), row(most, most, most)},
		{2, most, row(9, 0, 0), row(2, 2, 2), row(0, 0, 0), row(7, 5, 3)},
		// Just up to the room, and one more: at once, and by what comes to what waits; what goes makes room first.
		{2, 3, row(5, 0), row(2, 2), row(0, 0), row(3, 1)}, {2, 3, row(6, 0), row(2, 2), row(1, 0), row(3, 1)}, {2, 3, row(4, 3), row(2, 2), row(0, 0), row(2, 3)},
		{2, 3, row(4, 4), row(2, 2), row(0, 1), row(2, 3)}, {2, 3, row(5, 2, 2), row(2, 2, 2), row(0, 0, 0), row(3, 3, 3)}, {2, 3, row(5, 3, 2), row(2, 2, 2), row(0, 1, 0), row(3, 3, 3)},
		{2, 3, row(5, 1, 4), row(2, 2, 2), row(0, 0, 1), row(3, 2, 3)}, {1, 1, row(2, 1, 1, 2), row(1, 1, 1, 1), row(0, 0, 0, 1), row(1, 1, 1, 1)},
		// Steps that wait over many ticks, also behind what comes meanwhile.
		{1, 9, row(6, 0, 0, 0, 0, 0, 0), row(1, 1, 1, 1, 1, 1, 0), row(0, 0, 0, 0, 0, 0, 0), row(5, 4, 3, 2, 1, 0, 0)},
		{2, 9, row(8, 1, 0, 3, 0, 0, 0), row(2, 2, 2, 2, 2, 2, 0), row(0, 0, 0, 0, 0, 0, 0), row(6, 5, 3, 4, 2, 0, 0)},
		{3, 20, row(10, 10, 0, 0), row(3, 3, 3, 3), row(0, 0, 0, 0), row(7, 14, 11, 8)},
		// Empty, and again: a rate that was not used up is not kept.
		{2, 5, row(5, 0, 0, 0, 5, 0, 0), row(2, 2, 1, 0, 2, 2, 1), row(0, 0, 0, 0, 0, 0, 0), row(3, 1, 0, 0, 3, 1, 0)}, {3, 2, row(0, 0, 6, 0, 0, 4), row(0, 0, 3, 2, 0, 3), row(0, 0, 1, 0, 0, 0), row(0, 0, 2, 0, 0, 1)},
		{2, 1, row(0, 4, 0, 3, 0, 1), row(0, 2, 1, 2, 1, 1), row(0, 1, 0, 0, 0, 0), row(0, 1, 0, 1, 0, 0)},
		// Lost at several ticks, one after the other and with others between them.
		{2, 3, row(7, 7, 7, 0), row(2, 2, 2, 2), row(2, 5, 5, 0), row(3, 3, 3, 1)}, {1, 2, row(5, 0, 0, 9, 1, 4), row(1, 1, 1, 1, 1, 1), row(2, 0, 0, 6, 0, 3), row(2, 1, 0, 2, 2, 2)},
		{part, most, row(most, most, most, 0), row(part, part, part, part), row(0, 2*part, 3*part, 0), row(3*part, most, most, 3*part)},
		// What is not Right, by each number alone, and too many steps.
		{-1, 3, row(1), nil, nil, nil}, {2, -1, row(1), nil, nil, nil}, {least, 3, row(1), nil, nil, nil}, {2, least, row(1), nil, nil, nil}, {most + 1, 3, row(1), nil, nil, nil},
		{2, most + 1, row(1), nil, nil, nil}, {inf, 3, row(1), nil, nil, nil}, {2, inf, row(1), nil, nil, nil}, {greatest, 3, row(1), nil, nil, nil}, {2, greatest, row(1), nil, nil, nil},
		{2, 3, row(-1), nil, nil, nil}, {2, 3, row(1, -1, 1), nil, nil, nil}, {2, 3, row(1, 0, least), nil, nil, nil}, {most, most, row(most + 1), nil, nil, nil},
		{2, 3, row(1, inf), nil, nil, nil}, {2, 3, row(greatest, greatest, 1), nil, nil, nil}, {-1, 3, nil, nil, nil, nil}, {2, most + 1, nil, nil, nil, nil},
		{2, 3, make([]int, full), nil, nil, nil}, {2, 3, make([]int, full+1), nil, nil, nil},
		// As many steps as there may be.
		{2, 3, make([]int, full-1), make([]int, full-1), make([]int, full-1), make([]int, full-1)}, {0, 0, repeat(full-1, most), make([]int, full-1), repeat(full-1, most), make([]int, full-1)},
		{most, most, repeat(full-1, most), repeat(full-1, most), make([]int, full-1), make([]int, full-1)},
		{0, most, repeat(full-1, most), make([]int, full-1), repeat(full-2, most, 0), repeat(full-1, most)},
	} {
		checkPlay(t, c.rate, c.room, c.steps, c.went, c.lost, c.waits)
	}
}

func TestDelays(t *testing.T) {
	for _, c := range []struct {
		rate  int
		steps []int
		want  []int
	}{
		// Ordinary steps: some go at the same tick, some wait for what came ahead of them.
		{2, row(5, 0, 0, 1), row(2, 1, 0, 0)}, {3, row(5, 1, 4, 0), row(1, 0, 1, 0)}, {2, row(3, 4, 0, 1, 0), row(1, 2, 1, 0, 0)}, {1, row(2, 2, 0, 0, 1), row(1, 2, 1, 0, 0)},
		// No steps, and one.
		{2, nil, nil}, {0, row(), nil}, {most, nil, nil}, {2, row(0), row(0)}, {2, row(1), row(0)}, {2, row(2), row(0)}, {2, row(3), row(-1)}, {most, row(most), row(0)}, {most - 1, row(most), row(-1)},
		// A rate of 0: nothing goes, but where nothing has come nothing is late.
		{0, row(0, 0), row(0, 0)}, {0, row(1, 0), row(-1, -1)}, {0, row(0, 0, 1, 0), row(0, 0, -1, -1)}, {0, row(most), row(-1)},
		// A rate of Most: all goes at the same tick.
		{most, row(7, 0, most, most), row(0, 0, 0, 0)}, {most - 1, row(most, most-2, 0), row(1, 0, 0)},
		// Ticks at which nothing comes: as late as what waits then, or not at all.
		{2, row(0, 6, 0, 0, 0), row(0, 2, 1, 0, 0)}, {1, row(0, 0, 3, 0, 0, 0, 0), row(0, 0, 2, 1, 0, 0, 0)}, {1, row(2, 0, 0, 2, 0), row(1, 0, 0, 1, 0)},
		// Just within what goes up to a tick, and one more.
		{2, row(4, 0, 0), row(1, 0, 0)}, {2, row(5, 0, 0), row(2, 1, 0)}, {2, row(2, 2, 2), row(0, 0, 0)}, {2, row(3, 2, 1), row(1, 1, 0)},
		// At the last tick, by one more never; what comes at the last tick itself.
		{2, row(6, 0, 0), row(2, 1, 0)}, {2, row(7, 0, 0), row(-1, -1, -1)}, {2, row(4, 3, 0), row(1, -1, -1)}, {1, row(1, 1, 2), row(0, 0, -1)}, {1, row(1, 1, 1), row(0, 0, 0)},
		{3, row(9, 0, 1), row(2, 1, -1)}, {3, row(8, 0, 1), row(2, 1, 0)}, {1, row(9, 9), row(-1, -1)},
		// Something is lost: so much goes never, but what comes later and goes makes up for it.
		{part, row(most, most, 0, 0, 0, 0, 0), row(3, -1, -1, -1, -1, -1, -1)},
		{part, row(most, most, 0, 0, 0, 0, 0, 0, 0), row(3, -1, -1, -1, -1, -1, -1, -1, -1)},
		{part, row(most, most, 0, 0, 0, part, part), row(3, -1, -1, -1, -1, -1, -1)},
		{part, row(most, most, 0, 0, 0, part, part, 0), row(3, 6, 5, 4, 3, -1, -1, -1)},
		{part, row(most, most, 0, 0, 0, 0, 2*part-1, 0, 0), row(3, -1, -1, -1, -1, -1, -1, -1, -1)},
		{part, row(most, most, 0, 0, 0, 0, 2*part, 0, 0), row(3, 6, 5, 4, 3, 2, -1, -1, -1)},
		{part, row(most, 2*part, 0, 0, 0, 0), row(3, 4, 3, 2, 1, 0)}, {part, row(most, 2*part+1, 0, 0, 0, 0, 0), row(3, -1, -1, -1, -1, -1, -1)},
		{most - 1, row(most, most, most, most, 0), row(1, 1, 1, 1, 0)}, {0, row(most, most, 0), row(-1, -1, -1)}, {1, row(most, 3, 0), row(-1, -1, -1)},
		// What is not Right, by each number alone, and too many steps.
		{-1, row(1), nil}, {least, row(1), nil}, {most + 1, row(1), nil}, {inf, row(1), nil}, {greatest, row(1), nil}, {-1, nil, nil}, {most + 1, nil, nil},
		{2, row(-1), nil}, {2, row(1, -1, 1), nil}, {2, row(1, 0, least), nil}, {most, row(most + 1), nil}, {2, row(1, inf), nil}, {2, row(greatest, greatest, 1), nil},
		{2, make([]int, full), nil}, {2, make([]int, full+1), nil},
		// As many steps as there may be.
		{2, make([]int, full-1), make([]int, full-1)}, {most, repeat(full-1, most), make([]int, full-1)}, {0, repeat(full-1, most), repeat(full-1, -1)},
		{1, repeat(full-2, 0, full), repeat(full-1, -1)}, {1, append(row(0, 2), repeat(full-3, 1)...), append(repeat(full-3, 1, 0), -1)},
	} {
		check(t, queue.Delays(c.rate, c.steps), c.want, "Delays", c.rate, c.steps)
	}
	falling := make([]int, full-1)
	for i := range falling {
		falling[i] = full - 2 - i
	}
	steps := repeat(full-2, 0, full-1)
	check(t, queue.Delays(1, steps), falling, "Delays", 1, steps)
}

// rows gives every row of up to longest numbers of values.
func rows(longest int, values ...int) func(yield func([]int) bool) {
	return func(yield func([]int) bool) {
		count := 1
		for length := range longest + 1 {
			for code := range count {
				l := make([]int, length)
				for i := range l {
					l[i] = values[code%len(values)]
					code /= len(values)
				}
				if !yield(l) {
					return
				}
			}
			count *= len(values)
		}
	}
}

func rightByWords(rate, room int, steps []int) bool {
	for _, number := range append(row(rate, room), steps...) {
		if number < 0 || number > most {
			return false
		}
	}
	return len(steps) < full
}

// playByOnes has each one stand in the queue by itself: those ahead go, those behind are lost.
func playByOnes(rate, room int, steps []int) (went, lost, waits []int) {
	var line []struct{}
	for _, step := range steps {
		goes, drops := 0, 0
		for range step {
			line = append(line, struct{}{})
		}
		for len(line) > 0 && goes < rate {
			line, goes = line[1:], goes+1
		}
		for len(line) > room {
			line, drops = line[:len(line)-1], drops+1
		}
		went, lost, waits = append(went, goes), append(lost, drops), append(waits, len(line))
	}
	return went, lost, waits
}

func total(l []int) int {
	sum := 0
	for _, number := range l {
		sum += number
	}
	return sum
}

// delaysByWords tries every d for every tick.
func delaysByWords(went, steps []int) []int {
	var out []int
	for t := range steps {
		found := -1
		for d := 0; t+d < len(steps); d++ {
			if total(went[:t+d+1]) >= total(steps[:t+1]) {
				found = d
				break
			}
		}
		out = append(out, found)
	}
	return out
}

func TestAllShortSteps(t *testing.T) {
	for rate := range 6 {
		for steps := range rows(5, 0, 1, 2, 3, 4, 9) {
			for _, room := range row(0, 1, 2, 3, 7) {
				went, lost, waits := playByOnes(rate, room, steps)
				checkPlay(t, rate, room, steps, went, lost, waits)
			}
			went, _, _ := playByOnes(rate, most, steps)
			check(t, queue.Delays(rate, steps), delaysByWords(went, steps), "Delays", rate, steps)
		}
	}
}

func TestAllWrongSteps(t *testing.T) {
	values := row(least, -1, 0, 1, most-1, most, most+1, inf, greatest)
	for _, rate := range values {
		for steps := range rows(3, values...) {
			for _, room := range values {
				want := 0
				if rightByWords(rate, room, steps) {
					want = len(steps)
				}
				checkBool(t, queue.Right(rate, room, steps), rightByWords(rate, room, steps), "Right", rate, room, steps)
				went, lost, waits := queue.Play(rate, room, steps)
				if len(went) != want || len(lost) != want || len(waits) != want {
					t.Errorf("Play of %v, %v, %v is %v, %v, %v", rate, room, steps, went, lost, waits)
				}
			}
			var want []int
			if rightByWords(rate, most, steps) {
				went, _, _ := queue.Play(rate, most, steps)
				want = delaysByWords(went, steps)
			}
			check(t, queue.Delays(rate, steps), want, "Delays", rate, steps)
		}
	}
}

// Steps so great that the greatest room loses some of them.
func TestDelaysOfWhatIsLost(t *testing.T) {
	for _, rate := range row(0, 1, part-1, part, part+1, 2*part, 3*part, most-1, most) {
		for steps := range rows(6, 0, 1, part, 2*part+1, most) {
			went, _, _ := queue.Play(rate, most, steps)
			check(t, queue.Delays(rate, steps), delaysByWords(went, steps), "Delays", rate, steps)
		}
	}
}

// What comes goes, is lost, or waits.
func TestNothingIsMade(t *testing.T) {
	for _, rate := range row(0, 1, 5, most-1, most) {
		for _, room := range row(0, 1, 5, most-1, most) {
			for steps := range rows(4, 0, 1, 7, most-1, most) {
				went, lost, waits := queue.Play(rate, room, steps)
				for at := range steps {
					if total(went[:at+1])+total(lost[:at+1])+waits[at] != total(steps[:at+1]) || went[at] > rate || waits[at] > room {
						t.Errorf("Play of %v, %v, %v is %v, %v, %v", rate, room, steps, went, lost, waits)
					}
				}
			}
		}
	}
}

// long is as many steps as there may be, now more than 3 a tick and now fewer.
func long() []int {
	steps := make([]int, full-1)
	for i := range steps {
		steps[i] = i * i * 31 % 17 * (i % 3) * (i / 50 % 2)
	}
	return steps
}

// reich: what waits is the most that any steps up to a tick are above what goes meanwhile.
func reich(rate int, steps []int) []int {
	var out []int
	for upTo := range steps {
		above := 0
		for from := range upTo + 1 {
			above = max(above, total(steps[from:upTo+1])-rate*(upTo+1-from))
		}
		out = append(out, above)
	}
	return out
}

// lindley: what waits is what waited and came, less what goes, and never below 0.
func lindley(rate int, steps []int) []int {
	var out []int
	waits := 0
	for _, step := range steps {
		waits = max(waits+step-rate, 0)
		out = append(out, waits)
	}
	return out
}

func TestLindleyAndReich(t *testing.T) {
	inAll := func(rate int, steps []int) {
		_, lost, waits := queue.Play(rate, most, steps)
		check(t, lost, make([]int, len(steps)), "Play: what was lost", rate, most, steps)
		check(t, waits, lindley(rate, steps), "Play: what waits", rate, most, steps)
		check(t, waits, reich(rate, steps), "Play: what waits", rate, most, steps)
	}
	for rate := range 6 {
		for steps := range rows(5, 0, 1, 2, 5, 8) {
			inAll(rate, steps)
		}
		inAll(rate, long())
	}
}

// Where nothing is lost, a queue is a bucket that holds no more than it lets through at a tick.
func TestQueueIsBucketWithoutStore(t *testing.T) {
	for rate := range 6 {
		for steps := range rows(5, 0, 1, 2, 5, 8) {
			went, _, _ := queue.Play(rate, most, steps)
			check(t, went, bucket.Pass(api.Bucket{Rate: rate, Burst: rate}, steps), "Play: what went", rate, most, steps)
		}
		went, _, _ := queue.Play(rate, most, long())
		check(t, went, bucket.Pass(api.Bucket{Rate: rate, Burst: rate}, long()), "Play: what went", rate, most, long())
		check(t, queue.Delays(rate, long()), delaysByWords(went, long()), "Delays", rate, long())
	}
}

// Neither the steps nor the room behind them change or count, and what is answered is the caller's own.
func TestHandedIn(t *testing.T) {
	was := row(7, 0, 4, 9, -1)
	steps := slices.Clone(was)
	checkBool(t, queue.Right(2, 3, steps[:3]), true, "Right", 2, 3, steps[:3])
	went, lost, waits := queue.Play(2, 3, steps[:3])
	delays := queue.Delays(4, steps[:3])
	check(t, steps, was, "what was handed in")
	clear(steps)
	went, lost, waits = append(went, 5), append(lost, 6), append(waits, 7)
	check(t, went, row(2, 2, 2, 5), "what was answered")
	check(t, lost, row(2, 0, 0, 6), "what was answered")
	check(t, waits, row(3, 1, 3, 7), "what was answered")
	check(t, delays, row(1, 0, 0), "what was answered")
	clear(went)
	check(t, lost, row(2, 0, 0, 6), "what was answered")
	clear(lost)
	check(t, waits, row(3, 1, 3, 7), "what was answered")
	clear(delays)
	check(t, queue.Delays(4, was[:3]), row(1, 0, 0), "Delays", 4, was[:3])
	room := make([]int, 2, full+5)
	checkBool(t, queue.Right(2, 3, room), true, "Right", 2, 3, room)
}
