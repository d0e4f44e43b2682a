package ledbat_test

import (
	"math"
	"slices"
	"testing"

	"tidewait/api"
	"tidewait/ledbat"
)

const (
	least    = math.MinInt
	greatest = math.MaxInt
	most     = api.Most
	inf      = api.Inf
	widest   = api.MaxWindow
)

func row(l ...int) []int { return l }

// of is a control as it is after it has seen such a base (-1: none), with so many fourths beside its window.
func of(window, part, base int) api.Control {
	return api.Control{Kind: api.Ledbat, Window: window, Base: base, Part: part}
}

func check(t *testing.T, got, want any, name string, of ...any) {
	t.Helper()
	if got != want {
		t.Errorf("%s of %v is %v, not %v", name, of, got, want)
	}
}

func checkNext(t *testing.T, c api.Control, delay int, want api.Control, why api.Errno) {
	t.Helper()
	got, no := ledbat.Next(c, delay)
	if got != want || no != why {
		t.Errorf("Next of %v and %v is %v and %v, not %v and %v", c, delay, got, no, want, why)
	}
}

// edges is every window and base at which something ends, and some between, with every part.
func edges() []api.Control {
	var out []api.Control
	for _, base := range row(-1, 0, 1, 1000, most-1, most) {
		for _, window := range row(1, 2, 3, 5, widest-2, widest-1) {
			for part := range 4 {
				out = append(out, of(window, part, base))
			}
		}
		out = append(out, of(widest, 0, base))
	}
	return out
}

// wrong is every kind of control that is not Right.
func wrong() []api.Control {
	out := []api.Control{{}, {Window: 5}, {Window: 5, Base: -1}, {Kind: api.Ledbat}, {Kind: api.Ledbat, Base: -1}, {Kind: api.Ledbat, Part: 3}}
	for _, c := range edges() {
		for _, number := range row(least, least+1, -most, -3, -2, -1, 0, api.Vegas, api.Copa, 4, 5, most, greatest-1, greatest) {
			other := c
			other.Kind = number
			out = append(out, other)
		}
		for _, number := range row(least, least+1, -most, -widest, -2, -1, 0, widest+1, widest+2, 100, most, greatest-1, greatest) {
			other := c
			other.Window = number
			out = append(out, other)
		}
		for _, number := range row(least, least+1, -inf, -most-1, -most, -3, -2, most+1, most+2, 2*most, inf, greatest-1, greatest) {
			other := c
			other.Base = number
			out = append(out, other)
		}
		for _, number := range row(least, least+1, -most, -2, -1, 1, 2, 3, most, greatest-1, greatest) {
			way, speed, both, apart := c, c, c, c
			way.Way, speed.Speed = number, number
			both.Way, both.Speed = number, number
			// These come to nothing together.
			apart.Way, apart.Speed = number, -number
			out = append(out, way, speed, both, apart)
		}
		for _, number := range row(least, least+1, -most, -4, -2, -1, 4, 5, 8, widest, most, greatest-1, greatest) {
			other := c
			other.Part = number
			out = append(out, other)
		}
	}
	// A part beside the widest window, every field wrong at once, and what is right for others.
	for _, base := range row(-1, 0, 1, most) {
		out = append(out, of(widest, 1, base), of(widest, 2, base), of(widest, 3, base))
	}
	return append(out, api.Control{Kind: api.Ledbat, Window: 5, Base: 3, Way: -1, Part: 1}, api.Control{Kind: api.Ledbat, Window: 5, Base: 3, Speed: -3, Part: 3},
		api.Control{Kind: least, Window: least, Base: least, Way: least, Speed: least, Part: least}, api.Control{Kind: greatest, Window: greatest, Base: greatest, Way: greatest, Speed: greatest, Part: greatest},
		api.Control{Kind: api.Vegas, Window: 5, Base: 3}, api.Control{Kind: api.Copa, Window: 5, Base: 3, Way: 1, Speed: 1})
}

func TestNew(t *testing.T) {
	for _, c := range [][2]int{
		// Ordinary windows, and both ends.
		{2, 2}, {5, 5}, {7, 7}, {widest - 1, widest - 1}, {1, 1}, {widest, widest},
		// Too small, and too large.
		{0, 1}, {-1, 1}, {-2, 1}, {-widest, 1}, {-most, 1}, {-inf, 1}, {least + 1, 1}, {least, 1}, {widest + 1, widest}, {widest + 2, widest}, {4 * widest, widest}, {99, widest}, {most, widest}, {inf, widest}, {greatest - 1, widest}, {greatest, widest},
	} {
		check(t, ledbat.New(c[0]), api.Control{Kind: api.Ledbat, Window: c[1], Base: -1}, "New", c[0])
		check(t, ledbat.Right(ledbat.New(c[0])), true, "Right", ledbat.New(c[0]))
	}
	for window := 1; window <= widest; window++ {
		check(t, ledbat.New(window), of(window, 0, -1), "New", window)
	}
}

func TestRight(t *testing.T) {
	for _, c := range edges() {
		check(t, ledbat.Right(c), true, "Right", c)
	}
	for window := 1; window <= widest; window++ {
		check(t, ledbat.Right(of(window, 0, 9)), true, "Right", of(window, 0, 9))
		for part := 1; part <= 3; part++ {
			check(t, ledbat.Right(of(window, part, 9)), window < widest, "Right", of(window, part, 9))
		}
	}
	for _, c := range wrong() {
		check(t, ledbat.Right(c), false, "Right", c)
	}
}

func TestBase(t *testing.T) {
	for _, c := range []struct {
		base, delay, low, by int
	}{
		// None as yet: no wait, however long the delay is.
		{-1, 0, 0, 2}, {-1, 1, 1, 2}, {-1, 2, 2, 2}, {-1, 4, 4, 2}, {-1, 40, 40, 2}, {-1, most - 1, most - 1, 2}, {-1, most, most, 2},
		// A delay less, as much, and more.
		{9, 8, 8, 2}, {9, 1, 1, 2}, {9, 0, 0, 2}, {9, 9, 9, 2}, {9, 10, 9, 1}, {9, 13, 9, -2}, {9, 99, 9, -2}, {1, 0, 0, 2}, {0, 0, 0, 2}, {0, 1, 0, 1}, {1, 2, 1, 1}, {1, 1, 1, 2},
		{most, most - 1, most - 1, 2}, {most, most - 9, most - 9, 2}, {most, most, most, 2}, {most, 0, 0, 2}, {most - 1, most, most - 1, 1}, {most - 3, most, most - 3, -1}, {most - 4, most, most - 4, -2},
		// The longest delay behind the least bases.
		{0, most, 0, -2}, {1, most, 1, -2}, {2, most, 2, -2}, {0, most - 1, 0, -2}, {1, most - 1, 1, -2}, {most / 2, most, most / 2, -2},
	} {
		count := 20 + c.by
		checkNext(t, of(5, 0, c.base), c.delay, of(count/4, count%4, c.low), api.OK)
		checkNext(t, of(5, 1, c.base), c.delay, of((count+1)/4, (count+1)%4, c.low), api.OK)
	}
}

func TestWait(t *testing.T) {
	for _, c := range []struct {
		wait int
		want [2]int
	}{
		{0, [2]int{5, 3}}, {1, [2]int{5, 2}}, {2, [2]int{5, 1}}, {3, [2]int{5, 0}},
		// Half a packet less, and never more.
		{4, [2]int{4, 3}}, {5, [2]int{4, 3}}, {6, [2]int{4, 3}}, {7, [2]int{4, 3}}, {8, [2]int{4, 3}}, {40, [2]int{4, 3}}, {1000, [2]int{4, 3}}, {1 << 32, [2]int{4, 3}}, {most - 2, [2]int{4, 3}},
	} {
		for base := range 3 {
			checkNext(t, of(5, 1, base), base+c.wait, of(c.want[0], c.want[1], base), api.OK)
		}
	}
	checkNext(t, of(5, 1, 1), most, of(4, 3, 1), api.OK)
	checkNext(t, of(5, 1, 0), most, of(4, 3, 0), api.OK)
}

// What a packet has of fourths stands beside each window alike, and what is beyond becomes a packet, or breaks one.
func TestPart(t *testing.T) {
	for _, c := range []struct {
		part, wait, more, then int
	}{
		{0, 0, 0, 2}, {1, 0, 0, 3}, {2, 0, 1, 0}, {3, 0, 1, 1},
		{0, 1, 0, 1}, {1, 1, 0, 2}, {2, 1, 0, 3}, {3, 1, 1, 0},
		{0, 2, 0, 0}, {1, 2, 0, 1}, {2, 2, 0, 2}, {3, 2, 0, 3},
		{0, 3, -1, 3}, {1, 3, 0, 0}, {2, 3, 0, 1}, {3, 3, 0, 2},
		{0, 4, -1, 2}, {1, 4, -1, 3}, {2, 4, 0, 0}, {3, 4, 0, 1},
		{0, 5, -1, 2}, {1, 5, -1, 3}, {2, 5, 0, 0}, {3, 5, 0, 1},
	} {
		for window := 2; window <= widest-2; window++ {
			checkNext(t, of(window, c.part, 7), 7+c.wait, of(window+c.more, c.then, 7), api.OK)
		}
	}
}

func TestStaysWithin(t *testing.T) {
	for _, c := range []struct {
		window, part, wait int
		want               api.Control
	}{
		// What would be less than 4 fourths, and what just isn't.
		{1, 0, 3, of(1, 0, 5)}, {1, 0, 4, of(1, 0, 5)}, {1, 0, 5, of(1, 0, 5)}, {1, 0, 99, of(1, 0, 5)}, {1, 0, most - 5, of(1, 0, 5)}, {1, 1, 4, of(1, 0, 5)}, {1, 1, 5, of(1, 0, 5)}, {1, 1, most - 5, of(1, 0, 5)},
		{1, 1, 3, of(1, 0, 5)}, {1, 2, 3, of(1, 1, 5)}, {1, 2, 4, of(1, 0, 5)}, {1, 3, 3, of(1, 2, 5)}, {1, 3, 4, of(1, 1, 5)}, {1, 3, most - 5, of(1, 1, 5)}, {2, 0, 3, of(1, 3, 5)}, {2, 0, 4, of(1, 2, 5)}, {2, 1, 4, of(1, 3, 5)}, {2, 2, 4, of(2, 0, 5)}, {2, 3, 4, of(2, 1, 5)},
		{1, 0, 2, of(1, 0, 5)}, {1, 0, 1, of(1, 1, 5)}, {1, 0, 0, of(1, 2, 5)}, {1, 1, 0, of(1, 3, 5)}, {1, 2, 0, of(2, 0, 5)}, {1, 3, 0, of(2, 1, 5)}, {1, 3, 1, of(2, 0, 5)},
		// What would be more than MaxWindow, and what just isn't.
		{widest, 0, 0, of(widest, 0, 5)}, {widest, 0, 1, of(widest, 0, 5)}, {widest, 0, 2, of(widest, 0, 5)}, {widest, 0, 3, of(widest-1, 3, 5)}, {widest, 0, 4, of(widest-1, 2, 5)}, {widest, 0, 5, of(widest-1, 2, 5)}, {widest, 0, most - 5, of(widest-1, 2, 5)},
		{widest - 1, 3, 0, of(widest, 0, 5)}, {widest - 1, 3, 1, of(widest, 0, 5)}, {widest - 1, 3, 2, of(widest-1, 3, 5)}, {widest - 1, 3, 3, of(widest-1, 2, 5)}, {widest - 1, 2, 0, of(widest, 0, 5)}, {widest - 1, 2, 1, of(widest-1, 3, 5)}, {widest - 1, 1, 0, of(widest-1, 3, 5)}, {widest - 1, 1, 1, of(widest-1, 2, 5)}, {widest - 1, 0, 0, of(widest-1, 2, 5)},
		{widest - 1, 0, 3, of(widest-2, 3, 5)}, {widest - 1, 1, 4, of(widest-2, 3, 5)}, {widest - 2, 3, 0, of(widest-1, 1, 5)}, {widest - 2, 3, 1, of(widest-1, 0, 5)}, {widest - 2, 2, 0, of(widest-1, 0, 5)},
	} {
		checkNext(t, of(c.window, c.part, 5), 5+c.wait, c.want, api.OK)
	}
	checkNext(t, of(widest, 0, -1), most, of(widest, 0, most), api.OK)
	checkNext(t, of(widest-1, 3, -1), 0, of(widest, 0, 0), api.OK)
	checkNext(t, of(widest-1, 3, 9), 0, of(widest, 0, 0), api.OK)
	checkNext(t, of(1, 0, -1), most, of(1, 2, most), api.OK)
	checkNext(t, of(1, 0, 0), most, of(1, 0, 0), api.OK)
	checkNext(t, of(1, 1, 1), most, of(1, 0, 1), api.OK)
}

func TestNextOfNone(t *testing.T) {
	outside := row(least, least+1, -inf, -most-1, -most, -2, -1, most+1, most+2, 2*most, inf, greatest-1, greatest)
	for _, c := range edges() {
		for _, delay := range outside {
			checkNext(t, c, delay, api.Control{}, api.ErrRange)
		}
		for _, delay := range row(0, most) {
			_, why := ledbat.Next(c, delay)
			check(t, why, api.OK, "the errno of Next", c, delay)
		}
	}
	// Both at once: what c is comes first.
	for _, c := range wrong() {
		for _, delay := range row(least, -1, 0, 4, most, most+1, greatest) {
			checkNext(t, c, delay, api.Control{}, api.ErrForm)
		}
	}
}

// byWords neither multiplies nor divides: it goes fourth by fourth, and stops at either end.
func byWords(c api.Control, delay int) (api.Control, api.Errno) {
	parts := row(0, 1, 2, 3)
	if c.Window == widest {
		parts = row(0)
	}
	if c.Kind != api.Ledbat || c.Window < 1 || c.Window > widest || c.Base < -1 || c.Base > most || c.Way != 0 || c.Speed != 0 || !slices.Contains(parts, c.Part) {
		return api.Control{}, api.ErrForm
	}
	if delay < 0 || delay > most {
		return api.Control{}, api.ErrRange
	}
	window, part, base := c.Window, c.Part, c.Base
	if base == -1 || base > delay {
		base = delay
	}
	by := -2
	for wait, fourths := range row(2, 1, 0, -1) {
		if delay-base == wait {
			by = fourths
		}
	}
	for ; by > 0 && window < widest; by-- {
		part++
		if part == 4 {
			window, part = window+1, 0
		}
	}
	for ; by < 0 && window+part > 1; by++ {
		part--
		if part < 0 {
			window, part = window-1, 3
		}
	}
	return of(window, part, base), api.OK
}

func TestAllSmallOnes(t *testing.T) {
	delays := row(1000, most/3, most/2, most-1, most, -1, most+1)
	for delay := range 50 {
		delays = append(delays, delay)
	}
	for window := range widest + 2 {
		for base := -2; base < 30; base++ {
			for part := -1; part <= 5; part++ {
				for _, delay := range delays {
					want, why := byWords(of(window, part, base), delay)
					checkNext(t, of(window, part, base), delay, want, why)
				}
			}
		}
	}
}

func TestAllAtTheEdges(t *testing.T) {
	for _, kind := range row(least, 0, api.Vegas, api.Copa, api.Ledbat, 4, greatest) {
		for _, window := range row(least, 0, 1, 4, widest-1, widest, widest+1, greatest) {
			for _, base := range row(least, -2, -1, 0, 1, most, most+1, greatest) {
				for _, three := range [][3]int{{}, {1}, {1, 1}, {-1, 1}, {0, 1}, {0, -1}, {0, 0, -1}, {0, 0, 1}, {0, 0, 2}, {0, 0, 3}, {0, 0, 4}, {1, 0, 3}, {0, 1, 3}, {-1, 1, 3}, {least}, {0, least}, {0, 0, least}, {least, least}, {greatest}, {0, greatest}, {0, 0, greatest}, {greatest, greatest, 2}} {
					c := api.Control{Kind: kind, Window: window, Base: base, Way: three[0], Speed: three[1], Part: three[2]}
					for _, delay := range row(least, -1, 0, 1, 2, 3, 4, 9, most, most+1, greatest) {
						want, why := byWords(c, delay)
						check(t, ledbat.Right(c), why != api.ErrForm, "Right", c)
						checkNext(t, c, delay, want, why)
					}
				}
			}
		}
	}
}

// after is what one knows who has seen all these delays, one behind the other.
func after(t *testing.T, c api.Control, delays ...int) api.Control {
	t.Helper()
	for _, delay := range delays {
		next, why := ledbat.Next(c, delay)
		check(t, why, api.OK, "the errno of Next", c, delay)
		check(t, ledbat.Right(next), true, "Right", next)
		c = next
	}
	return c
}

func TestManyDelays(t *testing.T) {
	delays := row(3, 3, 9, 9, 1, 0, 1, 3, 2, 40, 40, 40, 5, most)
	for _, c := range []struct {
		window int
		want   []api.Control
	}{
		{1, []api.Control{of(1, 2, 3), of(2, 0, 3), of(1, 2, 3), of(1, 0, 3), of(1, 2, 1), of(2, 0, 0), of(2, 1, 0), of(2, 0, 0), of(2, 0, 0), of(1, 2, 0), of(1, 0, 0), of(1, 0, 0), of(1, 0, 0), of(1, 0, 0)}},
		{4, []api.Control{of(4, 2, 3), of(5, 0, 3), of(4, 2, 3), of(4, 0, 3), of(4, 2, 1), of(5, 0, 0), of(5, 1, 0), of(5, 0, 0), of(5, 0, 0), of(4, 2, 0), of(4, 0, 0), of(3, 2, 0), of(3, 0, 0), of(2, 2, 0)}},
		{widest, []api.Control{of(12, 0, 3), of(12, 0, 3), of(11, 2, 3), of(11, 0, 3), of(11, 2, 1), of(12, 0, 0), of(12, 0, 0), of(11, 3, 0), of(11, 3, 0), of(11, 1, 0), of(10, 3, 0), of(10, 1, 0), of(9, 3, 0), of(9, 1, 0)}},
	} {
		for count, want := range c.want {
			check(t, after(t, ledbat.New(c.window), delays[:count+1]...), want, "what is known", c.window, delays[:count+1])
		}
	}
	// Without a wait it grows by half a packet, at a wait of 2 it stays, and behind a longer one it falls.
	for count := range 30 {
		up, down := min(4+2*count, 4*widest), max(4*widest-2*count, 4)
		check(t, after(t, ledbat.New(1), slices.Repeat(row(7), count)...).Window, up/4, "the window", count)
		check(t, after(t, of(widest, 0, 0), slices.Repeat(row(most), count)...), of(down/4, down%4, 0), "what is known", count)
		check(t, after(t, of(6, 3, 7), slices.Repeat(row(9), count)...), of(6, 3, 7), "what is known", count)
	}
	check(t, after(t, ledbat.New(1), slices.Repeat(row(7), 5000)...), of(widest, 0, 7), "the end")
	check(t, after(t, of(widest, 0, 0), slices.Repeat(row(3), 5000)...), of(1, 0, 0), "the end")
	check(t, after(t, of(widest, 0, 0), slices.Repeat(row(most), 5000)...), of(1, 0, 0), "the end")
}

func TestManyDelaysByWords(t *testing.T) {
	for window := range widest + 1 {
		got := ledbat.New(window)
		want := of(max(window, 1), 0, -1)
		for i := range 5000 {
			delay := (i*i*31+window*i)%7 + (5000-i)/700
			got = after(t, got, delay)
			want, _ = byWords(want, delay)
			check(t, got, want, "what is known", window, i)
		}
	}
}

// Who is later sends no more; and nobody forgets the least delay.
func TestWhoIsLaterSendsNoMore(t *testing.T) {
	delays := row(0, 1, 2, 3, 4, 5, 6, 7, 8, 9, 10, 12, 15, 16, 20, 31, 40, 63, 100, 999, 1000, 1001, 1002, 1003, 1004, 1005, 4000, most/2, most-1, most)
	for _, c := range edges() {
		sooner := greatest
		for _, delay := range delays {
			next := after(t, c, delay)
			count := 4*next.Window + next.Part
			if count > sooner || next.Base > delay || c.Base >= 0 && next.Base > c.Base {
				t.Errorf("Next of %v and %v is %v, and sooner there were %v fourths", c, delay, next, sooner)
			}
			sooner = count
		}
	}
}

// Who has more at first never has less later, if both see the same.
func TestWhoHasMoreKeepsMore(t *testing.T) {
	for _, c := range edges() {
		for _, d := range edges() {
			if c.Base != d.Base || 4*c.Window+c.Part > 4*d.Window+d.Part {
				continue
			}
			for _, delay := range row(0, 1, 2, 3, 4, 5, 1000, 1003, most) {
				few, many := after(t, c, delay), after(t, d, delay)
				if 4*few.Window+few.Part > 4*many.Window+many.Part {
					t.Errorf("behind %v %v becomes %v, and %v becomes %v", delay, c, few, d, many)
				}
			}
		}
	}
}

// Whoever handed a control in keeps it as it was.
func TestHandedIn(t *testing.T) {
	c := of(5, 3, 9)
	next, why := ledbat.Next(c, 3)
	check(t, c, of(5, 3, 9), "what was handed in")
	check(t, next, of(6, 1, 3), "Next", c, 3)
	check(t, why, api.OK, "the errno of Next", c, 3)
	checkNext(t, c, 3, of(6, 1, 3), api.OK)
}
