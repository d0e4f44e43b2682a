package copa_test

import (
	"math"
	"slices"
	"testing"

	"tidewait/api"
	"tidewait/copa"
)

const (
	least    = math.MinInt
	greatest = math.MaxInt
	most     = api.Most
	inf      = api.Inf
	widest   = api.MaxWindow
	fastest  = 4
)

func row(l ...int) []int { return l }

// of is a control as it is after it has seen such a base (-1: none), and gone that way so fast.
func of(window, base, way, speed int) api.Control {
	return api.Control{Kind: api.Copa, Window: window, Base: base, Way: way, Speed: speed}
}

func check(t *testing.T, got, want any, name string, of ...any) {
	t.Helper()
	if got != want {
		t.Errorf("%s of %v is %v, not %v", name, of, got, want)
	}
}

func checkNext(t *testing.T, c api.Control, delay int, want api.Control, why api.Errno) {
	t.Helper()
	got, no := copa.Next(c, delay)
	if got != want || no != why {
		t.Errorf("Next of %v and %v is %v and %v, not %v and %v", c, delay, got, no, want, why)
	}
}

// edges is every window and base at which something ends, and some between, with every way and speed.
func edges() []api.Control {
	var out []api.Control
	for _, window := range row(1, 2, 3, 5, widest-1, widest) {
		for _, base := range row(-1, 0, 1, 1000, most-1, most) {
			for way := -1; way <= 1; way++ {
				for speed := range fastest + 1 {
					out = append(out, of(window, base, way, speed))
				}
			}
		}
	}
	return out
}

// wrong is every kind of control that is not Right.
func wrong() []api.Control {
	out := []api.Control{{}, {Window: 5}, {Window: 5, Base: -1}, {Kind: api.Copa}, {Kind: api.Copa, Base: -1}, {Kind: api.Copa, Way: 1, Speed: 1}}
	for _, c := range edges() {
		for _, number := range row(least, least+1, -most, -3, -2, -1, 0, api.Vegas, api.Ledbat, 4, 5, most, greatest-1, greatest) {
			other := c
			other.Kind = number
			out = append(out, other)
		}
		for _, number := range row(least, least+1, -most, -widest, -2, -1, 0, widest+1, widest+2, 100, most, greatest-1, greatest) {
			other := c
			other.Window = number
			out = append(out, other)
		}
		for _, number := range row(least, least+1, -inf, -most-1, -most, -3, -2, most+1, most+2, 2*most, inf, greatest-1, greatest) {
			other := c
			other.Base = number
			out = append(out, other)
		}
		for _, number := range row(least, least+1, -most, -4, -3, -2, 2, 3, 4, most, greatest-1, greatest) {
			other := c
			other.Way = number
			out = append(out, other)
		}
		for _, number := range row(least, least+1, -most, -4, -2, -1, fastest+1, fastest+2, 8, most, greatest-1, greatest) {
			other := c
			other.Speed = number
			out = append(out, other)
		}
		for _, number := range row(least, least+1, -most, -2, -1, 1, 2, 3, widest, most, greatest-1, greatest) {
			other := c
			other.Part = number
			out = append(out, other)
		}
	}
	// Fields that together come to nothing, every field wrong at once, and what is right for others.
	return append(out, of(5, 3, -2, 2), of(5, 3, 2, -2), of(5, 3, 1, -1), api.Control{Kind: api.Copa, Window: 5, Base: 3, Way: -1, Part: 1}, api.Control{Kind: api.Copa, Window: 5, Base: 3, Speed: 1, Part: -1},
		api.Control{Kind: least, Window: least, Base: least, Way: least, Speed: least, Part: least}, api.Control{Kind: greatest, Window: greatest, Base: greatest, Way: greatest, Speed: greatest, Part: greatest},
		api.Control{Kind: api.Vegas, Window: 5, Base: 3}, api.Control{Kind: api.Ledbat, Window: 5, Base: 3, Part: 1})
}

func TestNew(t *testing.T) {
	for _, c := range [][2]int{
		// Ordinary windows, and both ends.
		{2, 2}, {5, 5}, {7, 7}, {widest - 1, widest - 1}, {1, 1}, {widest, widest},
		// Too small, and too large.
		{0, 1}, {-1, 1}, {-2, 1}, {-widest, 1}, {-most, 1}, {-inf, 1}, {least + 1, 1}, {least, 1}, {widest + 1, widest}, {widest + 2, widest}, {99, widest}, {most, widest}, {inf, widest}, {greatest - 1, widest}, {greatest, widest},
	} {
		check(t, copa.New(c[0]), api.Control{Kind: api.Copa, Window: c[1], Base: -1}, "New", c[0])
		check(t, copa.Right(copa.New(c[0])), true, "Right", copa.New(c[0]))
	}
	for window := 1; window <= widest; window++ {
		check(t, copa.New(window), of(window, -1, 0, 0), "New", window)
	}
}

func TestRight(t *testing.T) {
	for _, c := range edges() {
		check(t, copa.Right(c), true, "Right", c)
	}
	for window := 1; window <= widest; window++ {
		check(t, copa.Right(of(window, 9, -1, 2)), true, "Right", of(window, 9, -1, 2))
	}
	for _, c := range wrong() {
		check(t, copa.Right(c), false, "Right", c)
	}
}

// Which way it goes hangs on the window, the base and the delay alone: who went nowhere before goes by one.
func TestWay(t *testing.T) {
	for _, c := range []struct {
		window, base, delay, then, low int
	}{
		// Ordinary delays: twice 10 through a wait of 6 are 3.
		{5, 3, 9, 4, 3}, {3, 3, 9, 4, 3}, {5, 3, 3, 6, 3}, {5, 3, 5, 6, 3}, {8, 10, 12, 9, 10}, {8, 10, 20, 7, 10},
		// No base as yet: no wait, however long the delay is.
		{1, -1, 0, 2, 0}, {5, -1, 0, 6, 0}, {5, -1, 1, 6, 1}, {5, -1, 40, 6, 40}, {5, -1, most, 6, most}, {widest, -1, 7, widest, 7}, {widest, -1, most, widest, most}, {widest - 1, -1, 7, widest, 7},
		// A delay less than the base, as much, and more.
		{5, 9, 8, 6, 8}, {5, 9, 1, 6, 1}, {5, 9, 0, 6, 0}, {5, 9, 9, 6, 9}, {5, 9, 10, 6, 9}, {5, 9, 15, 6, 9}, {5, 9, 16, 4, 9}, {5, 9, 17, 4, 9}, {5, 9, 99, 4, 9}, {5, 1, 0, 6, 0}, {5, 0, 0, 6, 0}, {5, 0, 1, 4, 0},
		{5, most, most - 1, 6, most - 1}, {5, most, most, 6, most}, {5, most, 0, 6, 0}, {widest, most - 1, most, widest, most - 1},
		// A wait of 0: no window is too large.
		{widest, 0, 0, widest, 0}, {widest, 9, 9, widest, 9}, {widest, 9, 3, widest, 3}, {widest - 1, 0, 0, widest, 0}, {widest - 1, 3, 0, widest, 0},
		// A window just at what goes up, and one beyond, where it comes out even.
		{4, 0, 1, 5, 0}, {5, 0, 1, 4, 0}, {3, 0, 2, 4, 0}, {4, 0, 2, 3, 0}, {6, 1, 2, 7, 1}, {7, 1, 2, 6, 1}, {8, 2, 3, 9, 2}, {9, 2, 3, 8, 2}, {10, 3, 4, 11, 3}, {11, 3, 4, 10, 3}, {4, 1, 3, 5, 1}, {5, 1, 3, 4, 1}, {6, 3, 5, 7, 3}, {7, 3, 5, 6, 3},
		// And where it is rounded down.
		{2, 0, 3, 3, 0}, {3, 0, 3, 2, 0}, {3, 1, 4, 4, 1}, {4, 1, 4, 3, 1}, {2, 1, 6, 3, 1}, {3, 1, 6, 2, 1}, {4, 3, 6, 5, 3}, {5, 3, 6, 4, 3}, {9, 10, 13, 10, 10}, {10, 10, 13, 9, 10}, {3, 8, 23, 4, 8}, {4, 8, 23, 3, 8},
		// 1 and the delay together, twice: by less than that each of these would go down.
		{widest, 4, 5, widest, 4}, {widest, 9, 11, widest, 9}, {3, 7, 23, 4, 7}, {4, 4, 9, 5, 4}, {8, 5, 7, 9, 5},
		// Windows of 1 and of 2 go up behind any delay.
		{1, 0, 1, 2, 0}, {1, 0, 99, 2, 0}, {1, 0, most, 2, 0}, {1, 1, most, 2, 1}, {1, 5, 3, 2, 3}, {2, 0, 1, 3, 0}, {2, 0, 99, 3, 0}, {2, 0, most, 3, 0}, {2, 1, most, 3, 1}, {2, 7, most, 3, 7},
		// The longest delay behind the least bases, and behind the greatest.
		{3, 0, most, 2, 0}, {3, 1, most, 2, 1}, {4, 0, most, 3, 0}, {widest, 0, most, widest - 1, 0}, {widest, 1, most, widest - 1, 1}, {4, most / 2, most, 5, most / 2}, {5, most / 2, most, 4, most / 2}, {4, most/2 - 1, most, 3, most/2 - 1},
		{widest, most / 6 * 5, most, widest - 1, most / 6 * 5}, {widest, most/6*5 + 9, most, widest, most/6*5 + 9}, {widest, most - 7, most, widest, most - 7},
	} {
		way := 1
		if c.then < c.window {
			way = -1
		}
		checkNext(t, of(c.window, c.base, 0, 0), c.delay, of(c.then, c.low, way, 1), api.OK)
	}
}

func TestSpeed(t *testing.T) {
	for _, c := range []struct {
		way, speed, up, down int
	}{
		// On the same way: twice as much, but 1 at least, and 4 at most; on the other one: 1.
		{1, 0, 1, 1}, {1, 1, 2, 1}, {1, 2, 4, 1}, {1, 3, 4, 1}, {1, 4, 4, 1},
		{-1, 0, 1, 1}, {-1, 1, 1, 2}, {-1, 2, 1, 4}, {-1, 3, 1, 4}, {-1, 4, 1, 4},
		// On none before: 1, whatever the speed was.
		{0, 0, 1, 1}, {0, 1, 1, 1}, {0, 2, 1, 1}, {0, 3, 1, 1}, {0, 4, 1, 1},
	} {
		checkNext(t, of(6, 3, c.way, c.speed), 3, of(6+c.up, 3, 1, c.up), api.OK)
		checkNext(t, of(6, 3, c.way, c.speed), 5, of(6+c.up, 3, 1, c.up), api.OK)
		checkNext(t, of(6, -1, c.way, c.speed), 9, of(6+c.up, 9, 1, c.up), api.OK)
		checkNext(t, of(6, 3, c.way, c.speed), 1, of(6+c.up, 1, 1, c.up), api.OK)
		checkNext(t, of(6, 3, c.way, c.speed), 6, of(6-c.down, 3, -1, c.down), api.OK)
		checkNext(t, of(6, 0, c.way, c.speed), most, of(6-c.down, 0, -1, c.down), api.OK)
	}
}

func TestWindowStaysWithin(t *testing.T) {
	for _, c := range []struct {
		window, base, way, speed, delay int
		want                            api.Control
	}{
		// What would be less than 1, and what just isn't: a window below 3 never falls.
		{3, 0, -1, 2, 9, of(1, 0, -1, 4)}, {3, 0, -1, 4, 9, of(1, 0, -1, 4)}, {4, 0, -1, 2, 9, of(1, 0, -1, 4)}, {4, 0, -1, 3, most, of(1, 0, -1, 4)}, {5, 0, -1, 4, 9, of(1, 0, -1, 4)}, {6, 0, -1, 4, 9, of(2, 0, -1, 4)},
		{3, 0, -1, 1, 9, of(1, 0, -1, 2)}, {4, 0, -1, 1, 9, of(2, 0, -1, 2)}, {3, 0, -1, 0, 9, of(2, 0, -1, 1)}, {3, 0, 1, 4, 9, of(2, 0, -1, 1)}, {3, 0, 0, 4, 9, of(2, 0, -1, 1)},
		{1, 0, -1, 4, 9, of(2, 0, 1, 1)}, {2, 0, -1, 4, 9, of(3, 0, 1, 1)}, {1, 0, 1, 4, 9, of(5, 0, 1, 4)}, {2, 0, 1, 1, most, of(4, 0, 1, 2)},
		// What would be more than MaxWindow, and what just isn't.
		{widest, 5, 0, 0, 5, of(widest, 5, 1, 1)}, {widest, 5, 1, 1, 5, of(widest, 5, 1, 2)}, {widest, 5, 1, 2, 5, of(widest, 5, 1, 4)}, {widest, 5, 1, 4, 5, of(widest, 5, 1, 4)}, {widest, 5, -1, 4, 5, of(widest, 5, 1, 1)},
		{widest - 1, 5, 1, 0, 5, of(widest, 5, 1, 1)}, {widest - 1, 5, 1, 1, 5, of(widest, 5, 1, 2)}, {widest - 1, 5, 1, 4, 5, of(widest, 5, 1, 4)}, {widest - 2, 5, 1, 1, 5, of(widest, 5, 1, 2)}, {widest - 2, 5, 1, 2, 5, of(widest, 5, 1, 4)},
		{widest - 3, 5, 1, 1, 5, of(widest-1, 5, 1, 2)}, {widest - 3, 5, 1, 3, 5, of(widest, 5, 1, 4)}, {widest - 4, 5, 1, 3, 5, of(widest, 5, 1, 4)}, {widest - 5, 5, 1, 3, 5, of(widest-1, 5, 1, 4)}, {widest, -1, 1, 4, most, of(widest, most, 1, 4)},
	} {
		checkNext(t, of(c.window, c.base, c.way, c.speed), c.delay, c.want, api.OK)
	}
}

func TestNextOfNone(t *testing.T) {
	outside := row(least, least+1, -inf, -most-1, -most, -2, -1, most+1, most+2, 2*most, inf, greatest-1, greatest)
	for _, c := range edges() {
		for _, delay := range outside {
			checkNext(t, c, delay, api.Control{}, api.ErrRange)
		}
		for _, delay := range row(0, most) {
			_, why := copa.Next(c, delay)
			check(t, why, api.OK, "the errno of Next", c, delay)
		}
	}
	// Both at once: what c is comes first.
	for _, c := range wrong() {
		for _, delay := range row(least, -1, 0, 4, most, most+1, greatest) {
			checkNext(t, c, delay, api.Control{}, api.ErrForm)
		}
	}
}

// byWords doesn't divide: it goes up as long as that many waits are no more than what they go through; and looks speeds up.
func byWords(c api.Control, delay int) (api.Control, api.Errno) {
	if c.Kind != api.Copa || c.Window < 1 || c.Window > widest || c.Base < -1 || c.Base > most || !slices.Contains(row(-1, 0, 1), c.Way) || !slices.Contains(row(0, 1, 2, 3, 4), c.Speed) || c.Part != 0 {
		return api.Control{}, api.ErrForm
	}
	if delay < 0 || delay > most {
		return api.Control{}, api.ErrRange
	}
	base := c.Base
	if base == -1 || base > delay {
		base = delay
	}
	waits := 0
	for range c.Window {
		waits += delay - base
	}
	way, speed := -1, 1
	if waits <= delay+delay+2 {
		way = 1
	}
	if way == c.Way {
		speed = row(1, 2, 4, 4, 4)[c.Speed]
	}
	window := c.Window
	for range speed {
		if window+way >= 1 && window+way <= widest {
			window += way
		}
	}
	return of(window, base, way, speed), api.OK
}

func TestAllSmallOnes(t *testing.T) {
	delays := row(1000, most/3, most/2, most-1, most, -1, most+1)
	for delay := range 50 {
		delays = append(delays, delay)
	}
	for window := range widest + 2 {
		for base := -2; base < 30; base++ {
			for way := -2; way <= 2; way++ {
				for speed := -1; speed <= fastest+1; speed++ {
					for _, delay := range delays {
						want, why := byWords(of(window, base, way, speed), delay)
						checkNext(t, of(window, base, way, speed), delay, want, why)
					}
				}
			}
		}
	}
}

func TestAllAtTheEdges(t *testing.T) {
	for _, kind := range row(least, 0, api.Vegas, api.Copa, api.Ledbat, 4, greatest) {
		for _, window := range row(least, 0, 1, 4, widest, widest+1, greatest) {
			for _, base := range row(least, -2, -1, 0, 1, most, most+1, greatest) {
				for _, three := range [][3]int{{}, {1}, {1, 1}, {-1, 4}, {0, 4}, {2, 4}, {-2, 4}, {1, -1}, {1, 5}, {0, 0, 1}, {1, 1, -1}, {least}, {0, least}, {0, 0, least}, {greatest}, {0, greatest}, {0, 0, greatest}, {1, greatest}, {-1, least}} {
					c := api.Control{Kind: kind, Window: window, Base: base, Way: three[0], Speed: three[1], Part: three[2]}
					for _, delay := range row(least, -1, 0, 1, 9, most, most+1, greatest) {
						want, why := byWords(c, delay)
						check(t, copa.Right(c), why != api.ErrForm, "Right", c)
						checkNext(t, c, delay, want, why)
					}
				}
			}
		}
	}
}

// after is what one knows who has seen all these delays, one behind the other.
func after(t *testing.T, c api.Control, delays ...int) api.Control {
	t.Helper()
	for _, delay := range delays {
		next, why := copa.Next(c, delay)
		check(t, why, api.OK, "the errno of Next", c, delay)
		check(t, copa.Right(next), true, "Right", next)
		c = next
	}
	return c
}

func TestManyDelays(t *testing.T) {
	delays := row(3, 3, 9, 9, 1, 0, 0, 0, 2, 40, 40, 40, 5, most)
	for _, c := range []struct {
		window int
		want   []int
	}{
		{1, row(2, 4, 3, 4, 6, 10, 12, 12, 11, 9, 5, 1, 2, 4)},
		{4, row(5, 7, 6, 4, 5, 7, 11, 12, 11, 9, 5, 1, 2, 4)},
		{widest, row(12, 12, 11, 9, 10, 12, 12, 12, 11, 9, 5, 1, 2, 4)},
	} {
		for count, want := range c.want {
			check(t, after(t, copa.New(c.window), delays[:count+1]...).Window, want, "the window", c.window, delays[:count+1])
		}
	}
	// Twice the same way: faster, as far as it goes.
	for count, want := range []api.Control{of(1, -1, 0, 0), of(2, 7, 1, 1), of(4, 7, 1, 2), of(8, 7, 1, 4), of(12, 7, 1, 4), of(12, 7, 1, 4)} {
		check(t, after(t, copa.New(1), slices.Repeat(row(7), count)...), want, "the window", count)
	}
	// Behind a wait that stays it falls, turns, and goes round.
	for count, want := range []api.Control{of(12, 0, 0, 0), of(11, 0, -1, 1), of(9, 0, -1, 2), of(5, 0, -1, 4), of(1, 0, -1, 4), of(2, 0, 1, 1), of(4, 0, 1, 2), of(3, 0, -1, 1), of(1, 0, -1, 2), of(2, 0, 1, 1)} {
		check(t, after(t, of(12, 0, 0, 0), slices.Repeat(row(most), count)...), want, "the window", count)
	}
	check(t, after(t, copa.New(1), slices.Repeat(row(7), 5000)...), of(widest, 7, 1, 4), "the end")
	check(t, after(t, of(widest, 0, 0, 0), slices.Repeat(row(most), 5000)...), of(1, 0, -1, 2), "the end")
}

func TestManyDelaysByWords(t *testing.T) {
	for window := range widest + 1 {
		got := copa.New(window)
		want := of(max(window, 1), -1, 0, 0)
		for i := range 5000 {
			delay := (i*i*31 + window*i) % 173 * (1 + (5000-i)/700)
			got = after(t, got, delay)
			want, _ = byWords(want, delay)
			check(t, got, want, "what is known", window, i)
		}
	}
}

// Who is later sends no more; and nobody forgets the least delay, or stands still but at an end.
func TestWhoIsLaterSendsNoMore(t *testing.T) {
	delays := row(0, 1, 2, 3, 4, 5, 6, 7, 8, 9, 10, 12, 15, 16, 20, 31, 40, 63, 100, 999, 1000, 1001, 4000, most/2, most-1, most)
	for _, c := range edges() {
		sooner := greatest
		for _, delay := range delays {
			next := after(t, c, delay)
			if next.Window > sooner || next.Base > delay || c.Base >= 0 && next.Base > c.Base || next.Window == c.Window && c.Window != widest {
				t.Errorf("Next of %v and %v is %v, and sooner the window was %v", c, delay, next, sooner)
			}
			sooner = next.Window
		}
	}
}

// Whoever handed a control in keeps it as it was.
func TestHandedIn(t *testing.T) {
	c := of(5, 9, 1, 1)
	next, why := copa.Next(c, 3)
	check(t, c, of(5, 9, 1, 1), "what was handed in")
	check(t, next, of(7, 3, 1, 2), "Next", c, 3)
	check(t, why, api.OK, "the errno of Next", c, 3)
	checkNext(t, c, 3, of(7, 3, 1, 2), api.OK)
}
