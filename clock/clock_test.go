package clock_test

import (
	"math"
	"slices"
	"testing"

	"tidewait/api"
	"tidewait/clock"
	"tidewait/window"
)

const (
	least    = math.MinInt
	greatest = math.MaxInt
	most     = api.Most
	inf      = api.Inf
)

func row(l ...int) []int { return l }

// pairs takes its numbers two by two: when a packet was sent, and when it came.
func pairs(l ...int) []api.Packet {
	var out []api.Packet
	for two := range slices.Chunk(l, 2) {
		out = append(out, api.Packet{Sent: two[0], Came: two[1]})
	}
	return out
}

// going makes packets with such ways, half of each by either clock, so that there is room for the longest and the shortest one.
func going(ways ...int) []api.Packet {
	var out []api.Packet
	for _, way := range ways {
		out = append(out, api.Packet{Sent: -(way / 2), Came: way - way/2})
	}
	return out
}

func check(t *testing.T, got, want []int, name string, of ...any) {
	t.Helper()
	if !slices.Equal(got, want) {
		t.Errorf("%s of %v is %v, not %v", name, of, got, want)
	}
}

func checkBool(t *testing.T, got, want bool, name string, of ...any) {
	t.Helper()
	if got != want {
		t.Errorf("%s of %v is %v, not %v", name, of, got, want)
	}
}

// wrong is every kind of packets that are not Right.
func wrong() [][]api.Packet {
	out := [][]api.Packet{
		// Both of one packet, or either in two of them; also where the way, or the two together, would be within.
		pairs(most+1, most+1), pairs(-most-1, -most-1), pairs(most+1, -most-1), pairs(-most-1, most+1), pairs(greatest, greatest), pairs(least, least), pairs(least, greatest), pairs(greatest, least),
		pairs(most+1, 0, 0, -most-1), pairs(0, 1, most+1, most+5, 0, 1), pairs(-most-1, 0, 0, most+1), pairs(most+1, most+1, -most-1, -most-1), pairs(0, 0, least, least, greatest, greatest),
	}
	// Each such number in either of the two, at the first packet, a middle one, the last, and alone.
	for _, number := range row(least, least+1, -inf, -2*most, -most-1, most+1, 2*most, inf, inf+1, greatest-1, greatest) {
		for length := 1; length < 6; length++ {
			for at := range length {
				l := pairs(row(3, 5, 4, 9, 5, 6, -7, -9, 0, 0)[:2*length]...)
				l[at].Sent = number
				out = append(out, l)
				l = slices.Clone(l)
				l[at].Sent, l[at].Came = l[at].Came, number
				out = append(out, l)
			}
		}
	}
	return append(out, append(make([]api.Packet, 5000), api.Packet{Came: most + 1}))
}

func TestRight(t *testing.T) {
	for _, l := range [][]api.Packet{
		// Ordinary packets, none, one.
		pairs(5, 2, 6, 7, 7, 4), pairs(0, 9, 1, 9, 2, 9, 3, 19), nil, {}, pairs(0, 0), pairs(3, 8), pairs(8, 3), pairs(-3, 8), pairs(3, -8), pairs(-3, -8),
		// Neither clock has to go on: packets in whichever order, and twice the same one.
		pairs(9, 1, 5, 0, 7, 3, 1, 8), pairs(1, 2, 1, 2), pairs(5, 5, 4, 4, 3, 3),
		// There is no bound to how many there are.
		make([]api.Packet, api.MaxLength), make([]api.Packet, api.MaxLength+1), slices.Repeat(pairs(-most, most), 5000),
	} {
		checkBool(t, clock.Right(l), true, "Right", l)
	}
	// Each edge in either of the two and in both, at every place.
	for _, number := range row(-most, -most+1, -1, 0, 1, most-1, most) {
		for length := 1; length < 6; length++ {
			for at := range length {
				for _, packet := range pairs(number, 0, 0, number, number, number, number, -number, most, number, number, -most) {
					l := pairs(row(3, 5, 4, 9, 5, 6, -7, -9, 0, 0)[:2*length]...)
					l[at] = packet
					checkBool(t, clock.Right(l), true, "Right", l)
				}
			}
		}
	}
	for _, l := range wrong() {
		checkBool(t, clock.Right(l), false, "Right", l)
	}
}

func TestWays(t *testing.T) {
	for _, c := range []struct {
		l    []api.Packet
		want []int
	}{
		// Ordinary packets: ways above 0, of 0 and below 0.
		{pairs(5, 2, 6, 7, 7, 4), row(-3, 1, -3)}, {pairs(0, 9, 1, 9, 2, 9, 3, 19, 4, 19), row(9, 8, 7, 16, 15)}, {pairs(1, 6, 2, 6, 9, 10), row(5, 4, 1)}, {pairs(6, 1, 6, 2, 10, 9), row(-5, -4, -1)},
		{pairs(3, 3, -3, -3, 0, 0), row(0, 0, 0)}, {pairs(4, 3, 4, 4, 4, 5), row(-1, 0, 1)}, {pairs(-4, -3, -4, -4, -4, -5), row(1, 0, -1)}, {pairs(-3, 4, 3, -4, -3, -4, 3, 4), row(7, -7, -1, 1)},
		// None, and one.
		{nil, nil}, {pairs(), nil}, {pairs(0, 0), row(0)}, {pairs(2, 9), row(7)}, {pairs(9, 2), row(-7)}, {pairs(0, 7), row(7)}, {pairs(7, 0), row(-7)}, {pairs(-7, 0), row(7)}, {pairs(0, -7), row(-7)},
		// Twice the same packet, and packets in whichever order: each by itself.
		{pairs(1, 2, 1, 2), row(1, 1)}, {pairs(9, 1, 5, 0, 7, 3, 1, 8), row(-8, -5, -4, 7)},
		// The longest and the shortest way that there can be, those next to them, and ways of 0 where the clocks end.
		{pairs(-most, most), row(2 * most)}, {pairs(most, -most), row(-2 * most)}, {pairs(-most+1, most), row(2*most - 1)}, {pairs(-most, most-1), row(2*most - 1)}, {pairs(most-1, -most), row(-2*most + 1)},
		{pairs(most, -most+1), row(-2*most + 1)}, {pairs(most, most, -most, -most), row(0, 0)}, {pairs(0, most, most, 0, -most, 0, 0, -most), row(most, -most, most, -most)}, {pairs(-most, most, most, -most, 0, 0), row(2*most, -2*most, 0)},
		// There is no bound to how many there are.
		{slices.Repeat(pairs(-most, most), 5000), slices.Repeat(row(2*most), 5000)}, {slices.Repeat(pairs(5, 2), api.MaxLength+1), slices.Repeat(row(-3), api.MaxLength+1)},
	} {
		check(t, clock.Ways(c.l), c.want, "Ways", c.l)
	}
	for _, l := range wrong() {
		check(t, clock.Ways(l), nil, "Ways", l)
	}
}

func TestWaits(t *testing.T) {
	up, down := going(1, 2, 4, 7, 11, 16), going(16, 11, 7, 4, 2, 1)
	mixed, nothing := going(5, -3, 4, 9, 1, 7, 8), row(0, 0, 0, 0, 0, 0)
	for _, c := range []struct {
		l          []api.Packet
		part, keep int
		want       []int
	}{
		// Ordinary packets. By a clock that is 3 behind a way of -3 is the shortest, and waits for nothing.
		{pairs(5, 2, 6, 7, 7, 4), 3, 1, row(0, 4, 0)}, {pairs(5, 2, 6, 7, 7, 4), 1, 2, row(0, 4, 0)}, {pairs(0, 9, 1, 9, 2, 9, 3, 19, 4, 19), 2, 2, row(0, 0, 0, 9, 8)}, {pairs(0, 9, 1, 9, 2, 9, 3, 19, 4, 19), 2, 1, row(0, 0, 0, 9, 0)},
		{mixed, 2, 1, row(0, 0, 0, 5, 0, 6, 0)}, {mixed, 2, 2, row(0, 0, 7, 12, 0, 6, 7)}, {mixed, 3, 1, row(0, 0, 7, 0, 0, 6, 0)}, {mixed, 3, 2, row(0, 0, 7, 12, 4, 10, 7)},
		// None, and one.
		{nil, 1, 1, nil}, {pairs(), 2, 3, nil}, {nil, greatest, greatest, nil}, {pairs(3, 8), 1, 1, row(0)}, {pairs(8, 3), 2, 3, row(0)}, {pairs(-most, most), greatest, greatest, row(0)}, {pairs(most, -most), 1, 1, row(0)},
		// Ways that rise, that fall, that stay, and that go up and down.
		{up, 2, 1, row(0, 1, 0, 3, 0, 5)}, {up, 2, 2, row(0, 1, 3, 6, 7, 12)}, {up, 3, 1, row(0, 1, 3, 0, 4, 9)}, {up, 4, 1, row(0, 1, 3, 6, 0, 5)}, {down, 2, 1, nothing}, {down, 2, 2, nothing}, {down, 6, 6, nothing},
		{going(7, 7, 7, 7, 7, 7), 2, 2, nothing}, {going(0, 0, 0, 0, 0, 0), 1, 3, nothing}, {going(-9, -9, -9, -9, -9, -9), 6, 1, nothing}, {going(3, 9, 2, 8, 1, 7), 2, 2, row(0, 6, 0, 6, 0, 6)}, {going(9, 3, 8, 2, 7, 1), 2, 1, nothing},
		{going(9, 3, 8, 2, 7, 1), 1, 2, row(0, 0, 5, 0, 5, 0)}, {going(-2, 2, -2, 2, -1, 1), 2, 1, row(0, 4, 0, 4, 0, 2)}, {going(-2, 2, -2, 2, -1, 1), 2, 2, row(0, 4, 0, 4, 1, 3)},
		// A part and a keep of 1, of both: nothing waits; of either: the last ones, or its own part alone.
		{up, 1, 1, nothing}, {mixed, 1, 1, row(0, 0, 0, 0, 0, 0, 0)}, {up, 1, 2, row(0, 1, 2, 3, 4, 5)}, {up, 1, 3, row(0, 1, 3, 5, 7, 9)}, {up, 5, 1, row(0, 1, 3, 6, 10, 0)},
		// As many as there are packets, more, and the greatest int: in either of the two, and in both.
		{up, 6, 1, row(0, 1, 3, 6, 10, 15)}, {up, 1, 6, row(0, 1, 3, 6, 10, 15)}, {up, 6, 6, row(0, 1, 3, 6, 10, 15)}, {up, 1, 5, row(0, 1, 3, 6, 10, 14)}, {up, 7, 1, row(0, 1, 3, 6, 10, 15)}, {up, 1, 7, row(0, 1, 3, 6, 10, 15)}, {up, 7, 7, row(0, 1, 3, 6, 10, 15)},
		{up, greatest, 1, row(0, 1, 3, 6, 10, 15)}, {up, 1, greatest, row(0, 1, 3, 6, 10, 15)}, {up, greatest, greatest, row(0, 1, 3, 6, 10, 15)}, {up, 2, greatest, row(0, 1, 3, 6, 10, 15)}, {up, greatest, 2, row(0, 1, 3, 6, 10, 15)},
		{up, greatest - 1, greatest - 1, row(0, 1, 3, 6, 10, 15)}, {mixed, greatest, greatest, row(0, 0, 7, 12, 4, 10, 11)}, {mixed, 7, 1, row(0, 0, 7, 12, 4, 10, 11)},
		// The shortest way still counts at the last packet of the last part that keeps it, and no longer one packet further on.
		{going(1, 5, 5, 5, 5, 5), 3, 1, row(0, 4, 4, 0, 0, 0)}, {going(5, 5, 1, 5, 5, 5), 3, 1, row(0, 0, 0, 0, 0, 0)}, {going(1, 5, 5, 5, 5, 5), 2, 2, row(0, 4, 4, 4, 0, 0)}, {going(5, 1, 5, 5, 5, 5), 2, 2, row(0, 0, 4, 4, 0, 0)},
		{going(5, 5, 1, 5, 5, 5), 2, 2, row(0, 0, 0, 4, 4, 4)}, {going(1, 5, 5, 5, 5, 5), 1, 4, row(0, 4, 4, 4, 0, 0)}, {going(5, 1, 5, 5, 5, 5), 1, 4, row(0, 0, 4, 4, 4, 0)}, {going(1, 5, 5), 2, 1, row(0, 4, 0)}, {going(1, 5, 5), 3, 1, row(0, 4, 4)},
		// One part fewer or more that is kept.
		{going(1, 5, 5, 5, 5, 5), 2, 1, row(0, 4, 0, 0, 0, 0)}, {going(1, 5, 5, 5, 5, 5), 2, 3, row(0, 4, 4, 4, 4, 4)}, {going(1, 5, 5, 5, 5, 5), 1, 3, row(0, 4, 4, 0, 0, 0)}, {going(1, 5, 5, 5, 5, 5), 1, 5, row(0, 4, 4, 4, 4, 0)}, {going(1, 5, 5), 1, 2, row(0, 4, 0)}, {going(1, 5, 5), 1, 3, row(0, 4, 4)},
		// What no longer counts leaves the next shortest one.
		{going(1, 3, 5, 7, 9, 11), 2, 2, row(0, 2, 4, 6, 4, 6)}, {going(3, 1, 5, 2, 9, 9), 2, 2, row(0, 0, 4, 1, 7, 7)}, {going(1, 1, 5, 5, 2, 5), 2, 2, row(0, 0, 4, 4, 0, 3)},
		// The longest and the shortest way side by side.
		{pairs(most, -most, -most, most), 2, 1, row(0, 4*most)}, {pairs(most, -most, -most, most), 1, 2, row(0, 4*most)}, {pairs(most, -most, -most, most), 1, 1, row(0, 0)}, {pairs(-most, most, most, -most), 2, 1, row(0, 0)},
		{pairs(-most, most, most, -most, -most, most), 3, 1, row(0, 0, 4*most)}, {pairs(-most, most, most, -most, -most, most), 2, 1, row(0, 0, 0)}, {pairs(0, 0, most, -most, -most, most, 0, 0), 4, 1, row(0, 0, 4*most, 2*most)},
		// There is no bound to how many there are.
		{slices.Repeat(pairs(0, 1, 0, 3), 2500), 5000, 1, slices.Repeat(row(0, 2), 2500)}, {slices.Repeat(pairs(0, 1, 0, 3), api.MaxLength), 2, 1, slices.Repeat(row(0, 2), api.MaxLength)},
	} {
		check(t, clock.Waits(c.l, c.part, c.keep), c.want, "Waits", c.l, c.part, c.keep)
	}
}

func TestWaitsOfNone(t *testing.T) {
	edges := row(least, least+1, -greatest, -2, -1, 0, 1, 2, 3, 4, greatest-1, greatest)
	for _, part := range edges {
		for _, keep := range edges {
			check(t, clock.Waits(nil, part, keep), nil, "Waits", nil, part, keep)
			if part > 0 && keep > 0 {
				continue
			}
			for _, l := range [][]api.Packet{pairs(3, 8), pairs(5, 2, 6, 7, 7, 4), pairs(-most, most, most, -most), make([]api.Packet, 5000)} {
				check(t, clock.Waits(l, part, keep), nil, "Waits", l, part, keep)
			}
		}
	}
	for _, l := range wrong() {
		for _, c := range [][2]int{{1, 1}, {2, 3}, {5, 1}, {1, 5}, {greatest, greatest}, {0, 1}, {1, 0}, {0, 0}, {-1, -1}, {least, least}, {least, greatest}, {greatest, least}} {
			check(t, clock.Waits(l, c[0], c[1]), nil, "Waits", l, c[0], c[1])
		}
	}
}

func rightByWords(l []api.Packet) bool {
	for _, packet := range l {
		if packet.Sent < -most || packet.Sent > most || packet.Came < -most || packet.Came > most {
			return false
		}
	}
	return true
}

// waitsByWords asks for each packet which part it and each one ahead of it are in.
func waitsByWords(l []api.Packet, part, keep int) []int {
	if part < 1 || keep < 1 || !rightByWords(l) {
		return nil
	}
	var out []int
	for at, packet := range l {
		longest := 0
		for ahead := range at + 1 {
			if at/part-ahead/part < keep {
				longest = max(longest, packet.Came-packet.Sent-(l[ahead].Came-l[ahead].Sent))
			}
		}
		out = append(out, longest)
	}
	return out
}

// lists gives every list of up to longest packets of those.
func lists(longest int, those ...api.Packet) func(yield func([]api.Packet) bool) {
	return func(yield func([]api.Packet) bool) {
		count := 1
		for length := range longest + 1 {
			for code := range count {
				l := make([]api.Packet, length)
				for i := range l {
					l[i] = those[code%len(those)]
					code /= len(those)
				}
				if !yield(l) {
					return
				}
			}
			count *= len(those)
		}
	}
}

func TestAllShortLists(t *testing.T) {
	for l := range lists(5, pairs(5, 2, 0, 0, -4, 3, most, -most, -most, most)...) {
		for part := range 7 {
			for keep := range 7 {
				check(t, clock.Waits(l, part, keep), waitsByWords(l, part, keep), "Waits", l, part, keep)
			}
		}
	}
}

func TestAllShortListsAtTheEdges(t *testing.T) {
	var edges []api.Packet
	for _, sent := range row(least, -most-1, -most, 0, most, most+1, greatest) {
		for _, came := range row(least, -most-1, -most, 0, most, most+1, greatest) {
			edges = append(edges, api.Packet{Sent: sent, Came: came})
		}
	}
	for l := range lists(2, edges...) {
		checkBool(t, clock.Right(l), rightByWords(l), "Right", l)
		for _, part := range row(-1, 0, 1, 2, greatest) {
			for _, keep := range row(-1, 0, 1, 2, greatest) {
				check(t, clock.Waits(l, part, keep), waitsByWords(l, part, keep), "Waits", l, part, keep)
			}
		}
	}
}

func TestLongList(t *testing.T) {
	l := make([]api.Packet, 1000)
	for i := range l {
		l[i] = api.Packet{Sent: i * 3, Came: i*3 - 40 + i*i*31%173}
	}
	for _, c := range [][2]int{{1, 7}, {7, 1}, {10, 3}, {33, 4}, {999, 1}, {1000, 1}, {1, 999}, {1, 1000}, {333, 3}, {333, 4}} {
		check(t, clock.Waits(l, c[0], c[1]), waitsByWords(l, c[0], c[1]), "Waits", "a long list", c[0], c[1])
	}
}

// ahead is what both clocks would tell if each stood by so much ahead of how it stands.
func ahead(l []api.Packet, sent, came int) []api.Packet {
	out := slices.Clone(l)
	for i := range out {
		out[i].Sent += sent
		out[i].Came += came
	}
	return out
}

// No matter how clocks stand: the ways are all as much longer or shorter, and the waits stay.
func TestNoMatterHowClocksStand(t *testing.T) {
	shifts := row(-most+9, -1000, -3, -1, 0, 1, 3, 1000, most-9)
	for l := range lists(4, pairs(5, 2, 6, 7, 0, 9, 4, 4, -9, 3)...) {
		ways, waits, longer := clock.Ways(l), clock.Waits(l, 2, 1), clock.Waits(l, 1, 3)
		for _, sent := range shifts {
			for _, came := range shifts {
				moved := ahead(l, sent, came)
				want := slices.Clone(ways)
				for i := range want {
					want[i] += came - sent
				}
				check(t, clock.Ways(moved), want, "Ways", l, sent, came)
				check(t, clock.Waits(moved, 2, 1), waits, "Waits", l, sent, came)
				check(t, clock.Waits(moved, 1, 3), longer, "Waits", l, sent, came)
			}
		}
	}
	// One more, and one of them is no longer a time that a clock can tell.
	l := pairs(5, 2, 6, 7, 7, 4)
	check(t, clock.Waits(ahead(l, most-7, 0), 3, 1), row(0, 4, 0), "Waits")
	check(t, clock.Waits(ahead(l, most-6, 0), 3, 1), nil, "Waits")
	check(t, clock.Waits(ahead(l, 0, most-7), 3, 1), row(0, 4, 0), "Waits")
	check(t, clock.Waits(ahead(l, 0, most-6), 3, 1), nil, "Waits")
	check(t, clock.Waits(ahead(l, -most-5, 0), 3, 1), row(0, 4, 0), "Waits")
	check(t, clock.Waits(ahead(l, -most-6, 0), 3, 1), nil, "Waits")
	check(t, clock.Waits(ahead(l, 0, -most-2), 3, 1), row(0, 4, 0), "Waits")
	check(t, clock.Waits(ahead(l, 0, -most-3), 3, 1), nil, "Waits")
}

// Nobody waits less than nothing, and what one waits and the shortest way together are its way.
func TestWaysAreWaitsAndTheShortest(t *testing.T) {
	for l := range lists(4, pairs(5, 2, 0, 9, 4, 4, most, -most, -most, most)...) {
		ways := clock.Ways(l)
		shortest := window.Base(ways, 2, 2)
		for i, wait := range clock.Waits(l, 2, 2) {
			if wait < 0 || shortest[i]+wait != ways[i] {
				t.Errorf("Waits of %v: %v is %v", l, i, wait)
			}
		}
	}
}

// Neither the packets nor the room behind them change or count, and what is answered is the caller's own.
func TestHandedIn(t *testing.T) {
	was := pairs(5, 2, 6, 7, 7, 4, most+1, least)
	l := slices.Clone(was)
	checkBool(t, clock.Right(l[:3]), true, "Right", l[:3])
	checkBool(t, clock.Right(l), false, "Right", l)
	ways, waits := clock.Ways(l[:3]), clock.Waits(l[:3], 3, 1)
	if !slices.Equal(l, was) {
		t.Errorf("what was handed in is %v, not %v", l, was)
	}
	clear(l)
	ways, waits = append(ways, 7), append(waits, 8)
	check(t, ways, row(-3, 1, -3, 7), "what was answered")
	check(t, waits, row(0, 4, 0, 8), "what was answered")
	clear(ways)
	check(t, waits, row(0, 4, 0, 8), "what was answered")
	clear(waits)
	check(t, clock.Ways(was[:3]), row(-3, 1, -3), "Ways again")
	check(t, clock.Waits(was[:3], 3, 1), row(0, 4, 0), "Waits again")
}
