package link_test

import (
	"math"
	"testing"

	"tidewait/api"
	"tidewait/link"
)

const (
	least    = math.MinInt
	greatest = math.MaxInt
	fastest  = api.MaxWindow
	roomiest = api.MaxBuffer
)

// pair tells one number of each flow.
type pair = [2]int

type given struct {
	rate, room  int
	waits, sent pair
}

func row(l ...int) []int { return l }

func checkRight(t *testing.T, g given, want bool) {
	t.Helper()
	if got := link.Right(g.rate, g.room, g.waits, g.sent); got != want {
		t.Errorf("Right of %v is %v, not %v", g, got, want)
	}
}

func checkPass(t *testing.T, g given, came, lost, waiting pair) {
	t.Helper()
	want := api.Round{Sent: g.sent, Came: came, Lost: lost}
	if got, left, errno := link.Pass(g.rate, g.room, g.waits, g.sent); got != want || left != waiting || errno != api.OK {
		t.Errorf("Pass of %v is %v %v %v, not %v %v OK", g, got, left, errno, want, waiting)
	}
}

func checkWrong(t *testing.T, g given) {
	t.Helper()
	checkRight(t, g, false)
	if got, left, errno := link.Pass(g.rate, g.room, g.waits, g.sent); got != (api.Round{}) || left != (pair{}) || errno != api.ErrRange {
		t.Errorf("Pass of %v is %v %v %v, not nothing but ErrRange", g, got, left, errno)
	}
}

// ordinary gives arguments that are Right, for one of them to be changed.
func ordinary() []given {
	return []given{
		{1, 0, pair{}, pair{}}, {2, 2, pair{1, 0}, pair{3, 1}}, {5, 3, pair{2, 4}, pair{0, 7}},
		{fastest, roomiest, pair{}, pair{fastest, fastest}}, {fastest, roomiest, pair{}, pair{}}, {1, roomiest, pair{0, 0}, pair{fastest, 0}},
	}
}

func TestRight(t *testing.T) {
	for _, g := range ordinary() {
		checkRight(t, g, true)
		for _, rate := range row(1, 2, fastest-1, fastest) {
			checkRight(t, given{rate, g.room, g.waits, g.sent}, true)
		}
		for _, room := range row(0, 1, roomiest-1, roomiest) {
			checkRight(t, given{g.rate, room, g.waits, g.sent}, true)
		}
		for _, waits := range []pair{
			{0, 0}, {1, 0}, {0, 1}, {roomiest - 1, 0}, {0, roomiest - 1}, {roomiest, 0}, {0, roomiest},
			// As many as there may be together, and one less.
			{roomiest - 1, 1}, {1, roomiest - 1}, {roomiest / 2, roomiest / 2}, {9, 7}, {7, 9}, {roomiest - 2, 1}, {7, 8}, {8, 7},
		} {
			checkRight(t, given{g.rate, g.room, waits, g.sent}, true)
		}
		for _, count := range row(0, 1, fastest-1, fastest) {
			checkRight(t, given{g.rate, g.room, g.waits, pair{count, g.sent[1]}}, true)
			checkRight(t, given{g.rate, g.room, g.waits, pair{g.sent[0], count}}, true)
			checkRight(t, given{g.rate, g.room, g.waits, pair{count, count}}, true)
		}
	}
}

func TestWrong(t *testing.T) {
	for _, g := range ordinary() {
		for _, rate := range row(least, least+1, -fastest, -1, 0, fastest+1, roomiest, api.Inf, greatest) {
			checkWrong(t, given{rate, g.room, g.waits, g.sent})
		}
		for _, room := range row(least, least+1, -roomiest, -1, roomiest+1, api.Inf, greatest) {
			checkWrong(t, given{g.rate, room, g.waits, g.sent})
		}
		for _, waits := range []pair{
			{-1, 0}, {0, -1}, {-1, -1}, {roomiest + 1, 0}, {0, roomiest + 1}, {least, 0}, {0, least}, {greatest, 0}, {0, greatest},
			// One more together than there may be.
			{roomiest, 1}, {1, roomiest}, {roomiest - 1, 2}, {2, roomiest - 1}, {9, 8}, {8, 9}, {roomiest, roomiest},
			// Sums that do not fit, or only fit since one number is below 0.
			{greatest, greatest}, {least, greatest}, {greatest, least}, {least, least}, {greatest, 1}, {1, greatest}, {greatest, greatest - 14}, {1 << 62, 1 << 62},
			{greatest, least + 1}, {greatest, least + 2}, {least + 5, greatest}, {least, least + 3}, {least + 3, least}, {least, 1}, {-1, least},
			// One below 0 beside one above.
			{-1, 1}, {1, -1}, {-1, roomiest}, {roomiest, -1}, {-1, roomiest + 1}, {roomiest + 1, -1}, {-5, 7}, {20, -9}, {least, roomiest}, {-1, greatest},
		} {
			checkWrong(t, given{g.rate, g.room, waits, g.sent})
		}
		for _, count := range row(least, least+1, -fastest, -1, fastest+1, roomiest, api.Inf, greatest) {
			checkWrong(t, given{g.rate, g.room, g.waits, pair{count, g.sent[1]}})
			checkWrong(t, given{g.rate, g.room, g.waits, pair{g.sent[0], count}})
			checkWrong(t, given{g.rate, g.room, g.waits, pair{count, count}})
		}
		for _, sent := range []pair{{-1, 1}, {1, -1}, {least, greatest}, {greatest, least}, {fastest + 1, -1}, {-1, fastest + 1}} {
			checkWrong(t, given{g.rate, g.room, g.waits, sent})
		}
		// Several faults at once.
		checkWrong(t, given{0, -1, g.waits, g.sent})
		checkWrong(t, given{0, g.room, pair{-1, 3}, g.sent})
		checkWrong(t, given{g.rate, -1, g.waits, pair{fastest + 1, 0}})
		checkWrong(t, given{fastest + 1, g.room, g.waits, pair{0, -1}})
		checkWrong(t, given{g.rate, g.room, pair{9, 8}, pair{-1, -1}})
		checkWrong(t, given{-3, -4, pair{-5, -6}, pair{-7, -8}})
		checkWrong(t, given{least, least, pair{least, least}, pair{least, least}})
		checkWrong(t, given{greatest, greatest, pair{greatest, greatest}, pair{greatest, greatest}})
	}
}

func TestPass(t *testing.T) {
	for _, c := range []struct {
		given
		came, lost, waiting pair
	}{
		// Ordinary ones.
		{given{2, 2, pair{1, 0}, pair{3, 1}}, pair{2, 0}, pair{1, 0}, pair{1, 1}},
		{given{2, 2, pair{0, 1}, pair{3, 1}}, pair{1, 1}, pair{1, 0}, pair{1, 1}},
		{given{4, 3, pair{1, 2}, pair{2, 5}}, pair{2, 2}, pair{0, 3}, pair{1, 2}},
		// Nothing waits, and nothing is sent.
		{given{1, 0, pair{}, pair{}}, pair{}, pair{}, pair{}}, {given{fastest, 0, pair{}, pair{}}, pair{}, pair{}, pair{}}, {given{1, roomiest, pair{}, pair{}}, pair{}, pair{}, pair{}}, {given{fastest, roomiest, pair{}, pair{}}, pair{}, pair{}, pair{}},
		// Only those of the first flow wait.
		{given{3, 0, pair{5, 0}, pair{}}, pair{3, 0}, pair{2, 0}, pair{}}, {given{3, 1, pair{5, 0}, pair{}}, pair{3, 0}, pair{1, 0}, pair{1, 0}}, {given{3, 2, pair{5, 0}, pair{}}, pair{3, 0}, pair{}, pair{2, 0}}, {given{3, 9, pair{5, 0}, pair{}}, pair{3, 0}, pair{}, pair{2, 0}},
		{given{5, 0, pair{5, 0}, pair{}}, pair{5, 0}, pair{}, pair{}}, {given{5, 4, pair{5, 0}, pair{}}, pair{5, 0}, pair{}, pair{}}, {given{7, 0, pair{5, 0}, pair{}}, pair{5, 0}, pair{}, pair{}}, {given{7, 4, pair{5, 0}, pair{}}, pair{5, 0}, pair{}, pair{}},
		// Only those of the second flow wait.
		{given{3, 0, pair{0, 5}, pair{}}, pair{0, 3}, pair{0, 2}, pair{}}, {given{3, 1, pair{0, 5}, pair{}}, pair{0, 3}, pair{0, 1}, pair{0, 1}}, {given{3, 2, pair{0, 5}, pair{}}, pair{0, 3}, pair{}, pair{0, 2}}, {given{3, 9, pair{0, 5}, pair{}}, pair{0, 3}, pair{}, pair{0, 2}},
		{given{5, 0, pair{0, 5}, pair{}}, pair{0, 5}, pair{}, pair{}}, {given{5, 4, pair{0, 5}, pair{}}, pair{0, 5}, pair{}, pair{}}, {given{7, 0, pair{0, 5}, pair{}}, pair{0, 5}, pair{}, pair{}}, {given{7, 4, pair{0, 5}, pair{}}, pair{0, 5}, pair{}, pair{}},
		// Only those of both wait: a rate less than, as much as and more than the first flow's, and than both together.
		{given{2, 0, pair{3, 4}, pair{}}, pair{2, 0}, pair{1, 4}, pair{}}, {given{2, 1, pair{3, 4}, pair{}}, pair{2, 0}, pair{0, 4}, pair{1, 0}}, {given{2, 3, pair{3, 4}, pair{}}, pair{2, 0}, pair{0, 2}, pair{1, 2}}, {given{2, 5, pair{3, 4}, pair{}}, pair{2, 0}, pair{}, pair{1, 4}},
		{given{3, 0, pair{3, 4}, pair{}}, pair{3, 0}, pair{0, 4}, pair{}}, {given{3, 3, pair{3, 4}, pair{}}, pair{3, 0}, pair{0, 1}, pair{0, 3}}, {given{4, 0, pair{3, 4}, pair{}}, pair{3, 1}, pair{0, 3}, pair{}}, {given{4, 2, pair{3, 4}, pair{}}, pair{3, 1}, pair{0, 1}, pair{0, 2}},
		{given{6, 0, pair{3, 4}, pair{}}, pair{3, 3}, pair{0, 1}, pair{}}, {given{6, 1, pair{3, 4}, pair{}}, pair{3, 3}, pair{}, pair{0, 1}}, {given{7, 0, pair{3, 4}, pair{}}, pair{3, 4}, pair{}, pair{}}, {given{7, 5, pair{3, 4}, pair{}}, pair{3, 4}, pair{}, pair{}}, {given{8, 5, pair{3, 4}, pair{}}, pair{3, 4}, pair{}, pair{}},
		{given{1, 0, pair{1, 1}, pair{}}, pair{1, 0}, pair{0, 1}, pair{}}, {given{1, 1, pair{1, 1}, pair{}}, pair{1, 0}, pair{}, pair{0, 1}},
		// Only those of one flow are sent.
		{given{2, 0, pair{}, pair{4, 0}}, pair{2, 0}, pair{2, 0}, pair{}}, {given{2, 1, pair{}, pair{4, 0}}, pair{2, 0}, pair{1, 0}, pair{1, 0}}, {given{2, 2, pair{}, pair{4, 0}}, pair{2, 0}, pair{}, pair{2, 0}}, {given{4, 0, pair{}, pair{4, 0}}, pair{4, 0}, pair{}, pair{}}, {given{5, 1, pair{}, pair{4, 0}}, pair{4, 0}, pair{}, pair{}},
		{given{2, 0, pair{}, pair{0, 4}}, pair{0, 2}, pair{0, 2}, pair{}}, {given{2, 1, pair{}, pair{0, 4}}, pair{0, 2}, pair{0, 1}, pair{0, 1}}, {given{2, 2, pair{}, pair{0, 4}}, pair{0, 2}, pair{}, pair{0, 2}}, {given{4, 0, pair{}, pair{0, 4}}, pair{0, 4}, pair{}, pair{}}, {given{5, 1, pair{}, pair{0, 4}}, pair{0, 4}, pair{}, pair{}},
		{given{1, 0, pair{}, pair{1, 0}}, pair{1, 0}, pair{}, pair{}}, {given{1, 0, pair{}, pair{0, 1}}, pair{0, 1}, pair{}, pair{}}, {given{1, 0, pair{}, pair{1, 1}}, pair{1, 0}, pair{0, 1}, pair{}}, {given{1, 1, pair{}, pair{1, 1}}, pair{1, 0}, pair{}, pair{0, 1}},
		// As many of both are sent.
		{given{3, 0, pair{}, pair{3, 3}}, pair{2, 1}, pair{1, 2}, pair{}}, {given{3, 2, pair{}, pair{3, 3}}, pair{2, 1}, pair{0, 1}, pair{1, 1}}, {given{4, 1, pair{}, pair{3, 3}}, pair{2, 2}, pair{0, 1}, pair{1, 0}}, {given{6, 0, pair{}, pair{3, 3}}, pair{3, 3}, pair{}, pair{}},
		// One more of the first, and one more of the second.
		{given{5, 1, pair{}, pair{4, 3}}, pair{3, 2}, pair{1, 0}, pair{0, 1}}, {given{6, 0, pair{}, pair{4, 3}}, pair{3, 3}, pair{1, 0}, pair{}}, {given{6, 1, pair{}, pair{4, 3}}, pair{3, 3}, pair{}, pair{1, 0}}, {given{7, 1, pair{}, pair{4, 3}}, pair{4, 3}, pair{}, pair{}},
		{given{5, 1, pair{}, pair{3, 4}}, pair{3, 2}, pair{0, 1}, pair{0, 1}}, {given{6, 0, pair{}, pair{3, 4}}, pair{3, 3}, pair{0, 1}, pair{}}, {given{6, 1, pair{}, pair{3, 4}}, pair{3, 3}, pair{}, pair{0, 1}}, {given{7, 1, pair{}, pair{3, 4}}, pair{3, 4}, pair{}, pair{}},
		// Many more of one.
		{given{3, 2, pair{}, pair{9, 2}}, pair{2, 1}, pair{6, 0}, pair{1, 1}}, {given{6, 3, pair{}, pair{9, 2}}, pair{4, 2}, pair{2, 0}, pair{3, 0}}, {given{2, 1, pair{}, pair{fastest, 1}}, pair{1, 1}, pair{10, 0}, pair{1, 0}},
		{given{3, 2, pair{}, pair{2, 9}}, pair{2, 1}, pair{0, 6}, pair{0, 2}}, {given{6, 3, pair{}, pair{2, 9}}, pair{2, 4}, pair{0, 2}, pair{0, 3}}, {given{2, 1, pair{}, pair{1, fastest}}, pair{1, 1}, pair{0, 10}, pair{0, 1}},
		{given{5, 4, pair{}, pair{fastest, 0}}, pair{5, 0}, pair{3, 0}, pair{4, 0}}, {given{5, 4, pair{}, pair{0, fastest}}, pair{0, 5}, pair{0, 3}, pair{0, 4}},
		// Everything at its greatest, with the waits of one flow, of the other, and of both.
		{given{fastest, roomiest, pair{roomiest, 0}, pair{fastest, fastest}}, pair{12, 0}, pair{6, 6}, pair{10, 6}},
		{given{fastest, roomiest, pair{0, roomiest}, pair{fastest, fastest}}, pair{0, 12}, pair{6, 6}, pair{6, 10}},
		{given{fastest, roomiest, pair{8, 8}, pair{fastest, fastest}}, pair{8, 4}, pair{6, 6}, pair{6, 10}},
		{given{1, 0, pair{roomiest, 0}, pair{fastest, fastest}}, pair{1, 0}, pair{27, 12}, pair{}}, {given{fastest, 0, pair{0, roomiest}, pair{fastest, fastest}}, pair{0, 12}, pair{12, 16}, pair{}},
		{given{1, roomiest, pair{roomiest, 0}, pair{fastest, fastest}}, pair{1, 0}, pair{11, 12}, pair{16, 0}}, {given{1, roomiest, pair{0, roomiest}, pair{fastest, fastest}}, pair{0, 1}, pair{11, 12}, pair{1, 15}},
	} {
		checkRight(t, c.given, true)
		checkPass(t, c.given, c.came, c.lost, c.waiting)
	}
}

// The rows are a, a, b that wait and a, b, a, b, a, b, b, b that were sent, and a, b, b that wait and a, b, a, b, a, b, a, a that were sent.
func TestWhereTheRateEnds(t *testing.T) {
	for i, came := range []pair{{1, 0}, {2, 0}, {2, 1}, {3, 1}, {3, 2}, {4, 2}, {4, 3}, {5, 3}, {5, 4}, {5, 5}, {5, 6}, {5, 6}} {
		rest := pair{5 - came[0], 6 - came[1]}
		checkPass(t, given{i + 1, 0, pair{2, 1}, pair{3, 5}}, came, rest, pair{})
		checkPass(t, given{i + 1, roomiest, pair{2, 1}, pair{3, 5}}, came, pair{}, rest)
	}
	for i, came := range []pair{{1, 0}, {1, 1}, {1, 2}, {2, 2}, {2, 3}, {3, 3}, {3, 4}, {4, 4}, {4, 5}, {5, 5}, {6, 5}, {6, 5}} {
		rest := pair{6 - came[0], 5 - came[1]}
		checkPass(t, given{i + 1, 0, pair{1, 2}, pair{5, 3}}, came, rest, pair{})
		checkPass(t, given{i + 1, roomiest, pair{1, 2}, pair{5, 3}}, came, pair{}, rest)
	}
}

func TestWhereTheRoomEnds(t *testing.T) {
	for room, waiting := range []pair{{0, 0}, {1, 0}, {1, 1}, {2, 1}, {2, 2}, {3, 2}, {3, 3}, {4, 3}, {4, 4}, {4, 5}, {4, 6}, {4, 6}, {4, 6}} {
		checkPass(t, given{1, room, pair{2, 1}, pair{3, 5}}, pair{1, 0}, pair{4 - waiting[0], 6 - waiting[1]}, waiting)
	}
	for room, waiting := range []pair{{0, 0}, {0, 1}, {1, 1}, {1, 2}, {2, 2}, {2, 3}, {3, 3}, {3, 4}, {4, 4}, {5, 4}, {5, 4}, {5, 4}} {
		checkPass(t, given{2, room, pair{1, 2}, pair{5, 3}}, pair{1, 1}, pair{5 - waiting[0], 4 - waiting[1]}, waiting)
	}
	// The rate ends within those that were sent.
	for room, waiting := range []pair{{0, 0}, {0, 1}, {1, 1}, {1, 2}, {2, 2}, {2, 3}, {2, 4}, {2, 5}, {2, 5}} {
		checkPass(t, given{4, room, pair{2, 1}, pair{3, 5}}, pair{3, 1}, pair{2 - waiting[0], 5 - waiting[1]}, waiting)
	}
}

// laid lays out the packets one by one, each told by its flow.
func laid(waits, sent pair) []int {
	var out []int
	for ; waits[0] > 0; waits[0]-- {
		out = append(out, 0)
	}
	for ; waits[1] > 0; waits[1]-- {
		out = append(out, 1)
	}
	for turn := 0; sent != (pair{}); turn = 1 - turn {
		if sent[turn] > 0 {
			out = append(out, turn)
			sent[turn]--
		}
	}
	return out
}

func count(packets []int) pair {
	var out pair
	for _, flow := range packets {
		out[flow]++
	}
	return out
}

// all gives everything that is Right, with the packets laid out.
func all(yield func(given, []int) bool) {
	for first := range roomiest + 1 {
		for second := range roomiest - first + 1 {
			for code := range (fastest + 1) * (fastest + 1) {
				waits, sent := pair{first, second}, pair{code / (fastest + 1), code % (fastest + 1)}
				packets := laid(waits, sent)
				for places := range fastest * (roomiest + 1) {
					if !yield(given{places%fastest + 1, places / fastest, waits, sent}, packets) {
						return
					}
				}
			}
		}
	}
}

func checkLaid(t *testing.T, g given, packets []int) {
	t.Helper()
	goes := min(g.rate, len(packets))
	stays := min(g.rate+g.room, len(packets))
	checkPass(t, g, count(packets[:goes]), count(packets[stays:]), count(packets[goes:stays]))
}

func TestAllThatIsRight(t *testing.T) {
	for g, packets := range all {
		checkRight(t, g, true)
		checkLaid(t, g, packets)
		// One fault may show in millions of them.
		if t.Failed() {
			return
		}
	}
}

// What is sent comes, waits, or is lost: the line and the room are never left empty while there is one to take, and what waits may wait again.
func TestNothingVanishes(t *testing.T) {
	for g, packets := range all {
		got, waiting, errno := link.Pass(g.rate, g.room, g.waits, g.sent)
		came, stays := got.Came[0]+got.Came[1], waiting[0]+waiting[1]
		if errno != api.OK || got.Sent != g.sent || came != min(g.rate, len(packets)) || stays != min(g.room, len(packets)-came) || !link.Right(g.rate, g.room, waiting, g.sent) {
			t.Fatalf("Pass of %v is %v %v %v", g, got, waiting, errno)
		}
		for flow := range 2 {
			if min(got.Came[flow], waiting[flow], got.Lost[flow]) < 0 || got.Came[flow]+waiting[flow]+got.Lost[flow] != g.waits[flow]+g.sent[flow] {
				t.Fatalf("Pass of %v is %v %v: something vanishes", g, got, waiting)
			}
		}
	}
}

func rightByWords(g given) bool {
	for _, n := range append(g.waits[:], g.sent[:]...) {
		if n < 0 || n > max(fastest, roomiest) {
			return false
		}
	}
	return g.rate >= 1 && g.rate <= fastest && g.room >= 0 && g.room <= roomiest &&
		g.waits[0]+g.waits[1] <= roomiest && max(g.sent[0], g.sent[1]) <= fastest
}

func TestAllAtTheEdges(t *testing.T) {
	rates := row(least, -1, 0, 1, fastest, fastest+1, greatest)
	rooms := row(least, -1, 0, roomiest, roomiest+1, greatest)
	waits := row(least, -1, 0, 1, roomiest-1, roomiest, roomiest+1, greatest)
	sent := row(least, -1, 0, fastest, fastest+1, greatest)
	for code := range len(rates) * len(rooms) * len(waits) * len(waits) * len(sent) * len(sent) {
		next := func(l []int) int {
			at := code % len(l)
			code /= len(l)
			return l[at]
		}
		g := given{next(rates), next(rooms), pair{next(waits), next(waits)}, pair{next(sent), next(sent)}}
		if !rightByWords(g) {
			checkWrong(t, g)
			continue
		}
		checkRight(t, g, true)
		checkLaid(t, g, laid(g.waits, g.sent))
	}
}
