package duel_test

import (
	"math"
	"slices"
	"testing"

	"tidewait/api"
	"tidewait/copa"
	"tidewait/duel"
	"tidewait/ledbat"
	"tidewait/vegas"
)

const (
	least    = math.MinInt
	greatest = math.MaxInt
	most     = api.Most
	fastest  = api.MaxWindow
	roomiest = api.MaxBuffer
	latest   = api.MaxJitter
)

// pair tells one number of each flow.
type pair = [2]int

func row(l ...int) []int { return l }

func rulesOf(kinds pair, rate, buffer, jitter int) api.Rules {
	return api.Rules{Kinds: kinds, Rate: rate, Buffer: buffer, Jitter: jitter}
}

// allKinds is each pair of kinds that there is.
func allKinds() []pair {
	return []pair{
		{api.Vegas, api.Vegas}, {api.Vegas, api.Copa}, {api.Vegas, api.Ledbat},
		{api.Copa, api.Vegas}, {api.Copa, api.Copa}, {api.Copa, api.Ledbat},
		{api.Ledbat, api.Vegas}, {api.Ledbat, api.Copa}, {api.Ledbat, api.Ledbat},
	}
}

// ordinary is rules that are not wrong, between the edges and at them.
func ordinary(kinds pair) []api.Rules {
	return []api.Rules{rulesOf(kinds, 3, 8, 2), rulesOf(kinds, 1, 0, 0), rulesOf(kinds, fastest, roomiest, latest), rulesOf(kinds, 5, 1, 1)}
}

// fresh is what one knows at the start.
func fresh(kind int) api.Control {
	return api.Control{Kind: kind, Window: 1, Base: -1}
}

func freshState(kinds pair) api.State {
	return api.State{Flows: [2]api.Control{fresh(kinds[0]), fresh(kinds[1])}}
}

// rightFlows is controls of a kind with each number at its edges, and some between.
func rightFlows(kind int) []api.Control {
	var out []api.Control
	for _, window := range row(1, 2, 6, fastest-1, fastest) {
		for _, base := range row(-1, 0, 4, most) {
			c := api.Control{Kind: kind, Window: window, Base: base}
			out = append(out, c)
			switch kind {
			case api.Copa:
				for _, way := range row(-1, 0, 1) {
					for _, speed := range row(0, 1, 3, 4) {
						c.Way, c.Speed = way, speed
						out = append(out, c)
					}
				}
			case api.Ledbat:
				for part := 1; part <= 3 && window < fastest; part++ {
					c.Part = part
					out = append(out, c)
				}
			}
		}
	}
	return out
}

// faults gives, of a control that is right, each one with one fault.
func faults(c api.Control) []api.Control {
	ways, speeds, parts := row(-1, 1), row(-1, 1), row(-1, 1)
	switch c.Kind {
	case api.Copa:
		ways, speeds = row(-2, 2), row(-1, 5)
	case api.Ledbat:
		parts = row(-1, 4)
		if c.Window == fastest {
			parts = row(-1, 1, 2, 3, 4)
		}
	}
	var out []api.Control
	put := func(number *int, wrong []int) {
		was := *number
		for _, n := range append(wrong, least, greatest) {
			*number = n
			out = append(out, c)
		}
		*number = was
	}
	put(&c.Kind, slices.DeleteFunc(row(-1, 0, api.Vegas, api.Copa, api.Ledbat, 4), func(kind int) bool { return kind == c.Kind }))
	put(&c.Window, row(-1, 0, fastest+1))
	put(&c.Base, row(-2, most+1))
	put(&c.Way, ways)
	put(&c.Speed, speeds)
	put(&c.Part, parts)
	return out
}

func checkRight(t *testing.T, r api.Rules, s api.State, want bool) {
	t.Helper()
	if got := duel.Right(r, s); got != want {
		t.Errorf("Right of %v and %v is %v, not %v", r, s, got, want)
	}
}

func checkNoStep(t *testing.T, r api.Rules, s api.State, late pair, want api.Errno) {
	t.Helper()
	if next, round, why := duel.Step(r, s, late); next != (api.State{}) || round != (api.Round{}) || why != want {
		t.Errorf("Step of %v, %v and %v is %v, %v and %v, not nothing but %v", r, s, late, next, round, why, want)
	}
}

func checkNoPlay(t *testing.T, r api.Rules, late []pair, want api.Errno) {
	t.Helper()
	if rounds, s, why := duel.Play(r, late); len(rounds) != 0 || s != (api.State{}) || why != want {
		t.Errorf("Play of %v and %v is %v, %v and %v, not nothing but %v", r, late, rounds, s, why, want)
	}
}

// checkWrong looks at what all five answer at these rules, OK or not.
func checkWrong(t *testing.T, r api.Rules, want api.Errno) {
	t.Helper()
	if got := duel.Wrong(r); got != want {
		t.Errorf("Wrong of %v is %v, not %v", r, got, want)
	}
	s, wantStart := freshState(r.Kinds), freshState(r.Kinds)
	if want != api.OK {
		wantStart = api.State{}
	}
	if got, why := duel.Start(r); got != wantStart || why != want {
		t.Errorf("Start of %v is %v and %v, not %v and %v", r, got, why, wantStart, want)
	}
	checkRight(t, r, s, want == api.OK)
	if want == api.OK {
		return
	}
	for _, s := range []api.State{s, {}, freshState(pair{api.Vegas, api.Vegas}), {Flows: s.Flows, Waits: pair{-1, 99}}} {
		checkRight(t, r, s, false)
		for _, late := range []pair{{}, {r.Jitter, r.Jitter}, {-1, 0}, {0, latest + 1}, {least, greatest}} {
			checkNoStep(t, r, s, late, want)
		}
	}
	for _, late := range [][]pair{nil, {}, {{}}, {{}, {}}, {{-1, 0}}, {{0, latest + 1}}, {{}, {greatest, least}}} {
		checkNoPlay(t, r, late, want)
	}
}

func TestKinds(t *testing.T) {
	const ok, none = api.OK, api.ErrKind
	all := []struct {
		kind int
		why  api.Errno
	}{{0, none}, {1, ok}, {2, ok}, {3, ok}, {4, none}, {-1, none}, {least, none}, {greatest, none}, {-2, none}, {-3, none}, {5, none}, {least + 1, none}, {1 << 32, none}, {1<<32 + 1, none}, {256 + 2, none}}
	for _, first := range all {
		for _, second := range all {
			want := max(first.why, second.why)
			kinds := pair{first.kind, second.kind}
			for _, r := range ordinary(kinds) {
				checkWrong(t, r, want)
			}
			// A kind that is none comes ahead of a number out of range.
			want = max(want, api.ErrRange)
			for _, r := range []api.Rules{rulesOf(kinds, 0, 8, 2), rulesOf(kinds, 3, -1, 2), rulesOf(kinds, 3, 8, -1), rulesOf(kinds, fastest+1, 8, 2), rulesOf(kinds, 3, roomiest+1, 2), rulesOf(kinds, 3, 8, latest+1), rulesOf(kinds, least, greatest, least), {Kinds: kinds}} {
				checkWrong(t, r, want)
			}
		}
	}
	checkWrong(t, api.Rules{}, none)
}

func TestNumbersOfRules(t *testing.T) {
	const ok, outside = api.OK, api.ErrRange
	type number struct {
		n   int
		why api.Errno
	}
	rates := []number{{0, outside}, {1, ok}, {2, ok}, {fastest - 1, ok}, {fastest, ok}, {fastest + 1, outside}, {roomiest, outside}, {-1, outside}, {least, outside}, {greatest, outside}}
	buffers := []number{{-1, outside}, {0, ok}, {1, ok}, {fastest + 1, ok}, {roomiest - 1, ok}, {roomiest, ok}, {roomiest + 1, outside}, {least, outside}, {greatest, outside}}
	jitters := []number{{-1, outside}, {0, ok}, {1, ok}, {latest - 1, ok}, {latest, ok}, {latest + 1, outside}, {least, outside}, {greatest, outside}}
	for _, kinds := range allKinds() {
		for _, rate := range rates {
			for _, buffer := range buffers {
				for _, jitter := range jitters {
					checkWrong(t, rulesOf(kinds, rate.n, buffer.n, jitter.n), max(rate.why, buffer.why, jitter.why))
				}
			}
		}
	}
}

func TestStart(t *testing.T) {
	of := map[int]api.Control{api.Vegas: vegas.New(1), api.Copa: copa.New(1), api.Ledbat: ledbat.New(1)}
	for _, kinds := range allKinds() {
		for _, r := range ordinary(kinds) {
			want := api.State{Flows: [2]api.Control{of[kinds[0]], of[kinds[1]]}}
			if got, why := duel.Start(r); got != want || why != api.OK {
				t.Errorf("Start of %v is %v and %v, not %v", r, got, why, want)
			}
			checkRight(t, r, want, true)
		}
	}
}

func TestRightFlows(t *testing.T) {
	for _, kinds := range allKinds() {
		for _, first := range rightFlows(kinds[0]) {
			for _, second := range rightFlows(kinds[1]) {
				s := api.State{Flows: [2]api.Control{first, second}}
				for _, r := range ordinary(kinds) {
					checkRight(t, r, s, true)
				}
			}
		}
	}
}

func TestFaultsOfFlows(t *testing.T) {
	for _, kinds := range allKinds() {
		for _, r := range ordinary(kinds) {
			for flow, kind := range kinds {
				for _, c := range rightFlows(kind) {
					for _, wrong := range faults(c) {
						s := freshState(kinds)
						s.Flows[flow] = wrong
						checkRight(t, r, s, false)
						checkNoStep(t, r, s, pair{}, api.ErrForm)
						// What waits does not make up for it, nor does the other flow.
						s.Flows[1-flow].Window = 6
						s.Waits[flow] = r.Buffer
						checkRight(t, r, s, false)
					}
				}
			}
			for _, first := range faults(fresh(kinds[0])) {
				for _, second := range faults(fresh(kinds[1])) {
					checkRight(t, r, api.State{Flows: [2]api.Control{first, second}}, false)
				}
			}
		}
	}
}

// Flows that are right by themselves, and not of the kinds that the rules name.
func TestFlowsOfOtherKinds(t *testing.T) {
	for _, kinds := range allKinds() {
		for _, others := range allKinds() {
			for _, r := range ordinary(kinds) {
				checkRight(t, r, freshState(others), kinds == others)
				if kinds != others {
					checkNoStep(t, r, freshState(others), pair{}, api.ErrForm)
				}
			}
		}
		for _, none := range row(0, 4, -1, least, greatest) {
			for _, others := range []pair{{none, kinds[1]}, {kinds[0], none}, {none, none}} {
				for _, r := range ordinary(kinds) {
					checkRight(t, r, freshState(others), false)
					checkNoStep(t, r, freshState(others), pair{}, api.ErrForm)
				}
			}
		}
	}
}

func rightByKind(kind int, c api.Control) bool {
	switch kind {
	case api.Vegas:
		return vegas.Right(c)
	case api.Copa:
		return copa.Right(c)
	}
	return ledbat.Right(c)
}

// edgesOfFlows gives controls with every number at its edges, right or not.
func edgesOfFlows(yield func(api.Control) bool) {
	kinds := row(least, -1, 0, api.Vegas, api.Copa, api.Ledbat, 4, greatest)
	windows := row(least, 0, 1, 5, fastest, fastest+1, greatest)
	bases := row(least, -2, -1, 0, most, most+1, greatest)
	ways := row(least, -2, -1, 0, 1, 2, greatest)
	speeds := row(least, -1, 0, 1, 4, 5, greatest)
	parts := row(least, -1, 0, 1, 3, 4, greatest)
	for code := range len(kinds) * len(windows) * len(bases) * len(ways) * len(speeds) * len(parts) {
		next := func(l []int) int {
			at := code % len(l)
			code /= len(l)
			return l[at]
		}
		if !yield(api.Control{Kind: next(kinds), Window: next(windows), Base: next(bases), Way: next(ways), Speed: next(speeds), Part: next(parts)}) {
			return
		}
	}
}

func TestAllEdgesOfFlows(t *testing.T) {
	for c := range edgesOfFlows {
		for _, kinds := range allKinds() {
			r := rulesOf(kinds, 3, 8, 2)
			for flow, kind := range kinds {
				s := freshState(kinds)
				s.Flows[flow] = c
				want := rightByKind(kind, c)
				checkRight(t, r, s, want)
				if !want {
					checkNoStep(t, r, s, pair{}, api.ErrForm)
				}
			}
		}
		// One fault may show in many of them.
		if t.Failed() {
			return
		}
	}
}

func TestWaits(t *testing.T) {
	for _, kinds := range allKinds() {
		for _, buffer := range row(0, 1, 2, 5, roomiest-1, roomiest) {
			r := rulesOf(kinds, 2, buffer, 1)
			s := freshState(kinds)
			// As many as there may be together, and less.
			for first := range buffer + 1 {
				for second := range buffer - first + 1 {
					s.Waits = pair{first, second}
					checkRight(t, r, s, true)
				}
			}
			for _, waits := range []pair{
				{-1, 0}, {0, -1}, {-1, -1}, {buffer + 1, 0}, {0, buffer + 1}, {buffer, 1}, {1, buffer}, {buffer + 1, buffer + 1}, {roomiest + 1, 0}, {0, roomiest + 1}, {roomiest, roomiest},
				{buffer/2 + 1, buffer - buffer/2}, {buffer - buffer/2, buffer/2 + 1},
				// Sums that do not fit an int, or that come to little since one is below 0.
				{greatest, greatest}, {least, greatest}, {greatest, least}, {least, least}, {greatest, 1}, {1, greatest}, {1 << 62, 1 << 62}, {1 << 62, 1<<62 + 9}, {greatest, least + 1}, {greatest, least + 2}, {least + 1, greatest}, {least + 2, greatest}, {least, 0}, {0, least}, {greatest, 0}, {0, greatest}, {least, -1}, {-1, least},
				// One below 0 beside one above.
				{-1, 1}, {1, -1}, {-1, buffer}, {buffer, -1}, {-1, buffer + 1}, {buffer + 1, -1}, {-3, 4}, {4, -3}, {least, buffer}, {buffer, least}, {-1, greatest}, {greatest, -1},
			} {
				s.Waits = waits
				checkRight(t, r, s, false)
				for _, late := range []pair{{}, {1, 1}, {-1, 0}, {0, 2}, {least, greatest}} {
					checkNoStep(t, r, s, late, api.ErrForm)
				}
			}
		}
	}
}
