package vegas_test

import (
	"math"
	"slices"
	"testing"

	"tidewait/api"
	"tidewait/vegas"
)

const (
	least    = math.MinInt
	greatest = math.MaxInt
	most     = api.Most
	inf      = api.Inf
	widest   = api.MaxWindow
)

func row(l ...int) []int { return l }

// of is a control as it is after it has seen such a base (-1: none).
func of(window, base int) api.Control {
	return api.Control{Kind: api.Vegas, Window: window, Base: base}
}

func check(t *testing.T, got, want any, name string, of ...any) {
	t.Helper()
	if got != want {
		t.Errorf("%s of %v is %v, not %v", name, of, got, want)
	}
}

func checkNext(t *testing.T, c api.Control, delay int, want api.Control, why api.Errno) {
	t.Helper()
	got, no := vegas.Next(c, delay)
	if got != want || no != why {
		t.Errorf("Next of %v and %v is %v and %v, not %v and %v", c, delay, got, no, want, why)
	}
}

// edges is every window and base at which something ends, and some between.
func edges() []api.Control {
	var out []api.Control
	for _, window := range row(1, 2, 3, 4, 5, 7, widest-1, widest) {
		for _, base := range row(-1, 0, 1, 3, 1000, most-1, most) {
			out = append(out, of(window, base))
		}
	}
	return out
}

// wrong is every kind of control that is not Right.
func wrong() []api.Control {
	out := []api.Control{{}, {Window: 5}, {Window: 5, Base: -1}, {Kind: api.Vegas}, {Kind: api.Vegas, Base: -1}}
	for _, c := range edges() {
		for _, number := range row(least, least+1, -inf, -most, -4, -3, -2, -1, 0, api.Copa, api.Ledbat, 4, 5, widest, most, inf, greatest-1, greatest) {
			other := c
			other.Kind = number
			out = append(out, other)
		}
		for _, number := range row(least, least+1, -inf, -most, -widest, -2, -1, 0, widest+1, widest+2, 100, most, inf, greatest-1, greatest) {
			other := c
			other.Window = number
			out = append(out, other)
		}
		for _, number := range row(least, least+1, -inf, -most-1, -most, -3, -2, most+1, most+2, 2*most, inf, greatest-1, greatest) {
			other := c
			other.Base = number
			out = append(out, other)
		}
		for _, number := range row(least, least+1, -most, -2, -1, 1, 2, 3, widest, most, inf, greatest-1, greatest) {
			way, speed, part := c, c, c
			way.Way, speed.Speed, part.Part = number, number, number
			out = append(out, way, speed, part)
			// Two or three that together come to nothing.
			way.Speed, speed.Part, part.Way = -number, -number, -number
			out = append(out, way, speed, part)
			way.Part = number
			out = append(out, way)
		}
	}
	// Every field wrong at once, and what is right for others.
	return append(out, api.Control{Kind: least, Window: least, Base: least, Way: least, Speed: least, Part: least}, api.Control{Kind: greatest, Window: greatest, Base: greatest, Way: greatest, Speed: greatest, Part: greatest},
		api.Control{Kind: api.Copa, Window: 5, Base: 3, Way: 1, Speed: 1}, api.Control{Kind: api.Ledbat, Window: 5, Base: 3, Part: 1})
}

func TestNew(t *testing.T) {
	for _, c := range [][2]int{
		// Ordinary windows, and both ends.
		{2, 2}, {5, 5}, {7, 7}, {widest - 1, widest - 1}, {1, 1}, {widest, widest},
		// Too small, and too large.
		{0, 1}, {-1, 1}, {-2, 1}, {-widest, 1}, {-most, 1}, {-inf, 1}, {least + 1, 1}, {least, 1}, {widest + 1, widest}, {widest + 2, widest}, {99, widest}, {most, widest}, {inf, widest}, {greatest - 1, widest}, {greatest, widest},
	} {
		check(t, vegas.New(c[0]), api.Control{Kind: api.Vegas, Window: c[1], Base: -1}, "New", c[0])
		check(t, vegas.Right(vegas.New(c[0])), true, "Right", vegas.New(c[0]))
	}
	for window := 1; window <= widest; window++ {
		check(t, vegas.New(window), of(window, -1), "New", window)
	}
}

func TestRight(t *testing.T) {
	for _, c := range edges() {
		check(t, vegas.Right(c), true, "Right", c)
	}
	for window := 1; window <= widest; window++ {
		check(t, vegas.Right(of(window, 9)), true, "Right", of(window, 9))
	}
	for _, c := range wrong() {
		check(t, vegas.Right(c), false, "Right", c)
	}
}

func TestNext(t *testing.T) {
	for _, c := range []struct {
		window, base, delay, then, low int
	}{
		// Ordinary delays: a window of 5 and a delay of 9, of which 6 are wait.
		{5, 3, 9, 4, 3}, {5, 3, 3, 6, 3}, {5, 3, 5, 5, 3}, {8, 10, 12, 8, 10}, {8, 10, 11, 9, 10}, {8, 10, 20, 7, 10},
		// No base as yet: no wait, however long the delay is.
		{1, -1, 0, 2, 0}, {5, -1, 0, 6, 0}, {5, -1, 1, 6, 1}, {5, -1, 40, 6, 40}, {5, -1, most, 6, most}, {widest, -1, 7, widest, 7}, {widest, -1, most, widest, most}, {widest - 1, -1, 7, widest, 7},
		// A delay less than the base, as much, and more.
		{5, 9, 8, 6, 8}, {5, 9, 1, 6, 1}, {5, 9, 0, 6, 0}, {5, 9, 9, 6, 9}, {5, 9, 10, 6, 9}, {5, 9, 12, 5, 9}, {5, 9, 99, 4, 9}, {5, 1, 0, 6, 0}, {5, 0, 0, 6, 0}, {5, 0, 1, 5, 0}, {5, 0, 2, 4, 0},
		{5, most, most - 1, 6, most - 1}, {5, most, most, 6, most}, {5, most, 0, 6, 0}, {5, most - 1, most, 6, most - 1},
		// m just below 1, at 1, and just above.
		{4, 3, 4, 5, 3}, {5, 3, 4, 5, 3}, {6, 3, 4, 6, 3}, {2, 9, 18, 3, 9}, {2, 9, 19, 2, 9}, {2, 9, 20, 2, 9}, {11, 10, 11, widest, 10}, {12, 10, 11, 12, 10}, {12, 11, 12, 12, 11}, {3, 7, 10, 4, 7}, {3, 7, 11, 3, 7}, {3, 7, 12, 3, 7},
		// m just below 2, at 2, and just above: it stays.
		{4, 3, 6, 4, 3}, {4, 3, 7, 4, 3}, {4, 3, 8, 4, 3}, {12, 4, 5, 12, 4}, {10, 3, 4, 10, 3}, {9, 3, 4, 9, 3}, {11, 3, 4, 11, 3}, {3, 0, 2, 3, 0}, {3, 0, 1, 3, 0},
		// m just below 3, at 3, and just above.
		{4, 3, 14, 4, 3}, {4, 3, 15, 3, 3}, {4, 3, 16, 3, 3}, {11, 2, 3, 11, 2}, {12, 2, 3, 11, 2}, {12, 3, 4, 12, 3}, {12, 3, 5, 11, 3}, {6, 2, 4, 6, 2}, {6, 2, 5, 5, 2}, {6, 2, 6, 5, 2}, {5, 1, 3, 5, 1}, {5, 1, 4, 4, 1}, {5, 0, 1, 5, 0},
		// m of 4 and more: still one less.
		{12, 2, 4, 11, 2}, {12, 1, 5, 11, 1}, {12, 0, 11, 11, 0}, {8, 0, 9, 7, 0}, {5, 0, 99, 4, 0},
		// 1 and the delay together: by the delay alone each of these would be one m more.
		{3, 0, 3, 3, 0}, {3, 0, 99, 3, 0}, {2, 0, 99, 2, 0}, {2, 5, 10, 3, 5}, {4, 3, 12, 4, 3}, {4, 4, 16, 4, 4},
		// A window of 1 is never less, and one of MaxWindow never more.
		{1, 0, 0, 2, 0}, {1, 0, 1, 2, 0}, {1, 0, 99, 2, 0}, {1, 0, most, 2, 0}, {1, 1, most, 2, 1}, {1, 5, 3, 2, 3}, {2, 0, most, 2, 0}, {3, 0, most, 3, 0}, {widest, 0, 0, widest, 0}, {widest, 9, 9, widest, 9}, {widest, 9, 3, widest, 3},
		{widest, 20, 21, widest, 20}, {widest, most, most, widest, most}, {widest - 1, 9, 9, widest, 9},
		// The longest delay behind the least bases, and behind the greatest.
		{widest, 0, most, widest - 1, 0}, {widest, 1, most, widest - 1, 1}, {4, 0, most, 3, 0}, {4, 1, most, 3, 1}, {widest, most - 1, most, widest, most - 1}, {widest, most / 2, most, widest - 1, most / 2},
		{4, most / 4, most, 4, most / 4}, {4, most/4 - 1, most, 3, most/4 - 1}, {4, most / 2, most, 4, most / 2}, {4, most/4*3 - 1, most, 4, most/4*3 - 1}, {4, most / 4 * 3, most, 5, most / 4 * 3}, {2, most / 2, most, 3, most / 2}, {2, most/2 - 1, most, 2, most/2 - 1},
	} {
		checkNext(t, of(c.window, c.base), c.delay, of(c.then, c.low), api.OK)
	}
}

func TestNextOfNone(t *testing.T) {
	outside := row(least, least+1, -inf, -most-1, -most, -2, -1, most+1, most+2, 2*most, inf, greatest-1, greatest)
	for _, c := range edges() {
		for _, delay := range outside {
			checkNext(t, c, delay, api.Control{}, api.ErrRange)
		}
	}
	// Both at once: what c is comes first.
	for _, c := range wrong() {
		for _, delay := range append(outside, 0, 1, 4, 9, most-1, most) {
			checkNext(t, c, delay, api.Control{}, api.ErrForm)
		}
	}
}

// byWords doesn't divide: m is below 1, or above 2, as Window times the wait is below once, or not below three times, what it goes through.
func byWords(c api.Control, delay int) (api.Control, api.Errno) {
	if c.Kind != api.Vegas || c.Window < 1 || c.Window > widest || c.Base < -1 || c.Base > most || c.Way != 0 || c.Speed != 0 || c.Part != 0 {
		return api.Control{}, api.ErrForm
	}
	if delay < 0 || delay > most {
		return api.Control{}, api.ErrRange
	}
	base := c.Base
	if base == -1 || base > delay {
		base = delay
	}
	times := 0
	for range c.Window {
		times += delay - base
	}
	window := c.Window
	if times <= delay && window < widest {
		window++
	}
	if times >= 3+3*delay && window > 1 {
		window--
	}
	return of(window, base), api.OK
}

func TestAllSmallOnes(t *testing.T) {
	delays := row(1000, most/4, most/3, most/2, most-2, most-1, most, -1, most+1)
	for delay := range 80 {
		delays = append(delays, delay)
	}
	for window := range widest + 2 {
		for base := -2; base < 45; base++ {
			for _, delay := range delays {
				want, why := byWords(of(window, base), delay)
				checkNext(t, of(window, base), delay, want, why)
			}
		}
	}
}

func TestAllAtTheEdges(t *testing.T) {
	for _, kind := range row(least, 0, api.Vegas, api.Copa, api.Ledbat, 4, greatest) {
		for _, window := range row(least, -1, 0, 1, 4, widest, widest+1, greatest) {
			for _, base := range row(least, -2, -1, 0, 1, most, most+1, greatest) {
				for _, three := range [][3]int{{}, {1}, {0, 1}, {0, 0, 1}, {-1, 1}, {least}, {0, least}, {0, 0, least}, {greatest}, {0, greatest}, {0, 0, greatest}} {
					c := api.Control{Kind: kind, Window: window, Base: base, Way: three[0], Speed: three[1], Part: three[2]}
					for _, delay := range row(least, -1, 0, 1, 9, most, most+1, greatest) {
						want, why := byWords(c, delay)
						check(t, vegas.Right(c), why != api.ErrForm, "Right", c)
						checkNext(t, c, delay, want, why)
					}
				}
			}
		}
	}
}

// after is what one knows who has seen all these delays, one behind the other.
func after(t *testing.T, c api.Control, delays ...int) api.Control {
	t.Helper()
	for _, delay := range delays {
		next, why := vegas.Next(c, delay)
		check(t, why, api.OK, "the errno of Next", c, delay)
		check(t, vegas.Right(next), true, "Right", next)
		c = next
	}
	return c
}

func TestManyDelays(t *testing.T) {
	delays := row(3, 3, 9, 9, 1, 0, 0, 0, 2, 40, 40, 40, 5, most)
	for _, c := range []struct {
		window int
		want   []int
	}{
		{1, row(2, 3, 3, 3, 4, 5, 6, 7, 6, 5, 4, 3, 3, 3)},
		{4, row(5, 6, 5, 4, 5, 6, 7, 8, 7, 6, 5, 4, 3, 3)},
		{widest, row(12, 12, 11, 10, 11, 12, 12, 12, 11, 10, 9, 8, 7, 6)},
	} {
		for count, want := range c.want {
			check(t, after(t, vegas.New(c.window), delays[:count+1]...).Window, want, "the window", c.window, delays[:count+1])
		}
	}
	// While nobody waits the window rises to the greatest; behind a wait that stays it falls as far as waits can take it.
	check(t, after(t, vegas.New(1), slices.Repeat(row(7), 10)...), of(11, 7), "the end")
	check(t, after(t, vegas.New(1), slices.Repeat(row(7), 11)...), of(widest, 7), "the end")
	check(t, after(t, vegas.New(1), slices.Repeat(row(7), 5000)...), of(widest, 7), "the end")
	check(t, after(t, of(widest, 0), slices.Repeat(row(most), 8)...), of(4, 0), "the end")
	check(t, after(t, of(widest, 0), slices.Repeat(row(most), 5000)...), of(3, 0), "the end")
	check(t, after(t, of(widest, 3), slices.Repeat(row(7), 5000)...), of(5, 3), "the end")
	check(t, after(t, vegas.New(1), slices.Repeat(row(3, 7), 5000)...), of(5, 3), "the end")
}

func TestManyDelaysByWords(t *testing.T) {
	for window := range widest + 1 {
		got := vegas.New(window)
		want := of(max(window, 1), -1)
		for i := range 5000 {
			delay := (i*i*31 + window*i) % 173 * (1 + (5000-i)/700)
			got = after(t, got, delay)
			want, _ = byWords(want, delay)
			check(t, got, want, "what is known", window, i)
		}
	}
}

// Who is later sends no more; and nobody goes by more than one, or forgets the least delay.
func TestWhoIsLaterSendsNoMore(t *testing.T) {
	delays := row(0, 1, 2, 3, 4, 5, 6, 7, 8, 9, 10, 12, 15, 16, 20, 31, 40, 63, 100, 999, 1000, 1001, 4000, most/2, most-1, most)
	for window := 1; window <= widest; window++ {
		for _, base := range append(delays, -1) {
			sooner := greatest
			for _, delay := range delays {
				next := after(t, of(window, base), delay)
				if next.Window > sooner || next.Window < window-1 || next.Window > window+1 || next.Base > delay || base >= 0 && next.Base > base {
					t.Errorf("Next of %v and %v is %v, and sooner the window was %v", of(window, base), delay, next, sooner)
				}
				sooner = next.Window
			}
		}
	}
}

// Whoever handed a control in keeps it as it was.
func TestHandedIn(t *testing.T) {
	c := of(5, 9)
	next, why := vegas.Next(c, 3)
	check(t, c, of(5, 9), "what was handed in")
	check(t, next, of(6, 3), "Next", c, 3)
	check(t, why, api.OK, "the errno of Next", c, 3)
	checkNext(t, c, 3, of(6, 3), api.OK)
}
