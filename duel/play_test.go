package duel_test

import (
	"slices"
	"testing"

	"tidewait/api"
	"tidewait/copa"
	"tidewait/duel"
	"tidewait/ledbat"
	"tidewait/link"
	"tidewait/vegas"
)

func checkStep(t *testing.T, r api.Rules, s api.State, late pair, want api.State, wantRound api.Round) {
	t.Helper()
	if next, round, why := duel.Step(r, s, late); next != want || round != wantRound || why != api.OK {
		t.Errorf("Step of %v, %v and %v is %v, %v and %v, not %v, %v and OK", r, s, late, next, round, why, want, wantRound)
	}
}

func windows(s api.State) pair {
	return pair{s.Flows[0].Window, s.Flows[1].Window}
}

func TestStepOfNone(t *testing.T) {
	for _, kinds := range allKinds() {
		for jitter := range latest + 1 {
			r := rulesOf(kinds, 2, 5, jitter)
			right := freshState(kinds)
			right.Waits = pair{2, 3}
			wrong := right
			wrong.Waits[1]++
			strange := right
			strange.Flows[1].Kind = 0
			for _, n := range row(-1, jitter+1, least, greatest, -jitter-1, jitter+2, least+1, greatest-1) {
				for _, late := range []pair{{n, 0}, {0, n}, {n, jitter}, {jitter, n}, {n, n}, {n, -n}, {-1, n}, {n, jitter + 1}} {
					checkNoStep(t, r, right, late, api.ErrRange)
					// What is wrong of the state comes first, and what is wrong of the rules ahead of that.
					checkNoStep(t, r, wrong, late, api.ErrForm)
					checkNoStep(t, r, strange, late, api.ErrForm)
					checkNoStep(t, rulesOf(pair{0, kinds[1]}, 2, 5, jitter), right, late, api.ErrKind)
					checkNoStep(t, rulesOf(pair{kinds[0], 4}, 0, 5, jitter), wrong, late, api.ErrKind)
					checkNoStep(t, rulesOf(kinds, 0, 5, jitter), wrong, late, api.ErrRange)
					checkNoStep(t, rulesOf(kinds, 2, roomiest+1, jitter), strange, late, api.ErrRange)
					checkNoStep(t, rulesOf(kinds, 2, 5, latest+1), strange, late, api.ErrRange)
				}
			}
			for _, late := range []pair{{0, 0}, {0, jitter}, {jitter, 0}, {jitter, jitter}} {
				if _, _, why := duel.Step(r, right, late); why != api.OK {
					t.Errorf("Step of %v, %v and %v is %v", r, right, late, why)
				}
			}
		}
	}
}

// behind is what a flow knows, and what it knows behind a delay of 2, and of 5.
type behind struct{ at, two, five api.Control }

func ofKind(kind int) behind {
	switch kind {
	case api.Vegas:
		return behind{api.Control{Kind: kind, Window: 5, Base: 1}, api.Control{Kind: kind, Window: 5, Base: 1}, api.Control{Kind: kind, Window: 4, Base: 1}}
	case api.Copa:
		return behind{
			api.Control{Kind: kind, Window: 5, Base: 1, Way: 1, Speed: 2},
			api.Control{Kind: kind, Window: 9, Base: 1, Way: 1, Speed: 4}, api.Control{Kind: kind, Window: 4, Base: 1, Way: -1, Speed: 1},
		}
	}
	return behind{
		api.Control{Kind: kind, Window: 5, Base: 1, Part: 1},
		api.Control{Kind: kind, Window: 5, Base: 1, Part: 2}, api.Control{Kind: kind, Window: 4, Base: 1, Part: 3},
	}
}

func TestStep(t *testing.T) {
	sent := pair{5, 5}
	for _, c := range []struct {
		buffer       int
		waits, still pair
		round        api.Round
	}{
		// 6 through 3 is 2; and so is 8, rounded down.
		{6, pair{2, 4}, pair{2, 4}, api.Round{Sent: sent, Came: pair{2, 1}, Lost: pair{3, 4}}},
		{8, pair{3, 5}, pair{2, 6}, api.Round{Sent: sent, Came: pair{3, 0}, Lost: pair{3, 4}}},
		{roomiest, pair{0, 7}, pair{5, 9}, api.Round{Sent: sent, Came: pair{0, 3}}},
	} {
		for _, kinds := range allKinds() {
			first, second := ofKind(kinds[0]), ofKind(kinds[1])
			r := rulesOf(kinds, 3, c.buffer, 3)
			s := api.State{Flows: [2]api.Control{first.at, second.at}, Waits: c.waits}
			checkStep(t, r, s, pair{0, 0}, api.State{Flows: [2]api.Control{first.two, second.two}, Waits: c.still}, c.round)
			checkStep(t, r, s, pair{3, 0}, api.State{Flows: [2]api.Control{first.five, second.two}, Waits: c.still}, c.round)
			checkStep(t, r, s, pair{0, 3}, api.State{Flows: [2]api.Control{first.two, second.five}, Waits: c.still}, c.round)
			checkStep(t, r, s, pair{3, 3}, api.State{Flows: [2]api.Control{first.five, second.five}, Waits: c.still}, c.round)
		}
	}
}

func TestStepAtTheEdges(t *testing.T) {
	const v, c, l = api.Vegas, api.Copa, api.Ledbat
	for _, x := range []struct {
		r     api.Rules
		s     api.State
		late  pair
		want  api.State
		round api.Round
	}{
		// A Base that is Most, beside delays of 2 and 3.
		{
			rulesOf(pair{v, c}, 3, 8, 3), api.State{Flows: [2]api.Control{{Kind: v, Window: 5, Base: most}, {Kind: c, Window: 5, Base: most, Way: 1, Speed: 2}}, Waits: pair{4, 3}}, pair{0, 1},
			api.State{Flows: [2]api.Control{{Kind: v, Window: 6, Base: 2}, {Kind: c, Window: 9, Base: 3, Way: 1, Speed: 4}}, Waits: pair{3, 5}}, api.Round{Sent: pair{5, 5}, Came: pair{3, 0}, Lost: pair{3, 3}},
		},
		{
			rulesOf(pair{l, v}, 3, 8, 3), api.State{Flows: [2]api.Control{{Kind: l, Window: 5, Base: most, Part: 1}, {Kind: v, Window: fastest, Base: most}}, Waits: pair{3, 3}}, pair{0, 0},
			api.State{Flows: [2]api.Control{{Kind: l, Window: 5, Base: 2, Part: 3}, {Kind: v, Window: fastest, Base: 2}}, Waits: pair{3, 5}}, api.Round{Sent: pair{5, fastest}, Came: pair{3, 0}, Lost: pair{2, 10}},
		},
		// Windows of 1 that would be less.
		{
			rulesOf(pair{c, l}, 1, roomiest, 0), api.State{Flows: [2]api.Control{{Kind: c, Window: 3, Base: 0, Way: -1, Speed: 4}, {Kind: l, Window: 1, Base: 0}}, Waits: pair{0, roomiest}}, pair{0, 0},
			api.State{Flows: [2]api.Control{{Kind: c, Window: 1, Base: 0, Way: -1, Speed: 4}, {Kind: l, Window: 1, Base: 0}}, Waits: pair{1, 15}}, api.Round{Sent: pair{3, 1}, Came: pair{0, 1}, Lost: pair{2, 1}},
		},
		{
			rulesOf(pair{v, l}, 1, roomiest, 3), api.State{Flows: [2]api.Control{{Kind: v, Window: 1, Base: 0}, {Kind: l, Window: 1, Base: 0, Part: 1}}, Waits: pair{roomiest, 0}}, pair{3, 3},
			api.State{Flows: [2]api.Control{{Kind: v, Window: 2, Base: 0}, {Kind: l, Window: 1, Base: 0}}, Waits: pair{16, 0}}, api.Round{Sent: pair{1, 1}, Came: pair{1, 0}, Lost: pair{0, 1}},
		},
		// Windows of MaxWindow that would be more.
		{
			rulesOf(pair{c, l}, fastest, 0, 0), api.State{Flows: [2]api.Control{{Kind: c, Window: fastest, Base: 0, Way: 1, Speed: 4}, {Kind: l, Window: fastest, Base: 0}}}, pair{0, 0},
			api.State{Flows: [2]api.Control{{Kind: c, Window: fastest, Base: 0, Way: 1, Speed: 4}, {Kind: l, Window: fastest, Base: 0}}}, api.Round{Sent: pair{12, 12}, Came: pair{6, 6}, Lost: pair{6, 6}},
		},
		{
			rulesOf(pair{v, v}, 4, 9, 0), api.State{Flows: [2]api.Control{{Kind: v, Window: fastest, Base: 7}, {Kind: v, Window: fastest, Base: -1}}, Waits: pair{1, 2}}, pair{0, 0},
			api.State{Flows: [2]api.Control{{Kind: v, Window: fastest, Base: 0}, {Kind: v, Window: fastest, Base: 0}}, Waits: pair{4, 5}}, api.Round{Sent: pair{12, 12}, Came: pair{2, 2}, Lost: pair{7, 7}},
		},
		// A Buffer of 0: nothing ever waits, so that a delay is what late says.
		{
			rulesOf(pair{v, l}, 3, 0, 3), api.State{Flows: [2]api.Control{{Kind: v, Window: 5, Base: 1}, {Kind: l, Window: 4, Base: 0, Part: 2}}}, pair{1, 3},
			api.State{Flows: [2]api.Control{{Kind: v, Window: 6, Base: 1}, {Kind: l, Window: 4, Base: 0, Part: 1}}}, api.Round{Sent: pair{5, 4}, Came: pair{2, 1}, Lost: pair{3, 3}},
		},
		{
			rulesOf(pair{c, c}, 1, 0, 3), api.State{Flows: [2]api.Control{{Kind: c, Window: 1, Base: -1}, {Kind: c, Window: 4, Base: 0, Way: 1, Speed: 4}}}, pair{3, 3},
			api.State{Flows: [2]api.Control{{Kind: c, Window: 2, Base: 3, Way: 1, Speed: 1}, {Kind: c, Window: 3, Base: 0, Way: -1, Speed: 1}}}, api.Round{Sent: pair{1, 4}, Came: pair{1, 0}, Lost: pair{0, 4}},
		},
	} {
		checkStep(t, x.r, x.s, x.late, x.want, x.round)
	}
}

// through takes away what there is of the other as often as it can.
func through(all, by int) int {
	count := 0
	for ; all >= by; all -= by {
		count++
	}
	return count
}

// Who has seen no delay as yet, or only the longest one, has what it sees as its Base.
func TestDelays(t *testing.T) {
	for _, kinds := range allKinds() {
		for rate := 1; rate <= fastest; rate++ {
			for first := range roomiest + 1 {
				for second := range roomiest - first + 1 {
					for code := range (latest + 1) * (latest + 1) {
						late := pair{code / (latest + 1), code % (latest + 1)}
						s := freshState(kinds)
						s.Flows[first%2].Base = most
						s.Waits = pair{first, second}
						next, _, why := duel.Step(rulesOf(kinds, rate, roomiest, latest), s, late)
						want := through(first+second, rate)
						if got := (pair{next.Flows[0].Base, next.Flows[1].Base}); why != api.OK || got != (pair{want + late[0], want + late[1]}) {
							t.Fatalf("Step at a rate of %v, of %v that wait and %v late, tells %v of delays %v", rate, s.Waits, late, why, got)
						}
					}
				}
			}
		}
	}
}

func nextOfKind(kind int, c api.Control, delay int) (api.Control, api.Errno) {
	switch kind {
	case api.Vegas:
		return vegas.Next(c, delay)
	case api.Copa:
		return copa.Next(c, delay)
	}
	return ledbat.Next(c, delay)
}

// stepByWords is for what is right alone.
func stepByWords(t *testing.T, r api.Rules, s api.State, late pair) (api.State, api.Round) {
	t.Helper()
	round, waits, why := link.Pass(r.Rate, r.Buffer, s.Waits, windows(s))
	delay := through(s.Waits[0]+s.Waits[1], r.Rate)
	first, no := nextOfKind(r.Kinds[0], s.Flows[0], delay+late[0])
	second, none := nextOfKind(r.Kinds[1], s.Flows[1], delay+late[1])
	if why != api.OK || no != api.OK || none != api.OK {
		t.Fatalf("of %v, %v and %v Pass is %v, and Next are %v and %v", r, s, late, why, no, none)
	}
	return api.State{Flows: [2]api.Control{first, second}, Waits: waits}, round
}

func checkByWords(t *testing.T, r api.Rules, s api.State, late pair) api.State {
	t.Helper()
	want, round := stepByWords(t, r, s, late)
	checkStep(t, r, s, late, want, round)
	checkRight(t, r, s, true)
	// What a step leads to can always go on.
	checkRight(t, r, want, true)
	if round.Sent != windows(s) {
		t.Errorf("Step of %v and %v sends %v", r, s, round.Sent)
	}
	return want
}

func TestManyStates(t *testing.T) {
	for _, kinds := range allKinds() {
		seconds := rightFlows(kinds[1])
		for i, first := range rightFlows(kinds[0]) {
			for j, second := range seconds {
				for _, waits := range []pair{{0, 0}, {1, 0}, {3, 5}, {0, roomiest}, {7, 9}} {
					for _, rate := range row(1, 4, fastest) {
						s := api.State{Flows: [2]api.Control{first, second}, Waits: waits}
						late := pair{i % (latest + 1), j % (latest + 1)}
						checkByWords(t, rulesOf(kinds, rate, roomiest, latest), s, late)
						checkByWords(t, rulesOf(kinds, rate, waits[0]+waits[1], max(late[0], late[1])), s, late)
					}
				}
				// One fault may show in many of them.
				if t.Failed() {
					return
				}
			}
		}
	}
}

// draws is so many pairs of late, each from 0 to jitter, that look like no rule.
func draws(count, jitter, seed int) []pair {
	out := make([]pair, count)
	state := uint64(seed)*2862933555777941757 + 3037000493
	for i := range out {
		for flow := range out[i] {
			state = state*6364136223846793005 + 1442695040888963407
			out[i][flow] = int(state>>33) % (jitter + 1)
		}
	}
	return out
}

// allRules is each of them that is not wrong.
func allRules(yield func(api.Rules) bool) {
	for _, kinds := range allKinds() {
		for rate := 1; rate <= fastest; rate++ {
			for buffer := range roomiest + 1 {
				for jitter := range latest + 1 {
					if !yield(rulesOf(kinds, rate, buffer, jitter)) {
						return
					}
				}
			}
		}
	}
}

func TestAllRules(t *testing.T) {
	for r := range allRules {
		late := draws(40, r.Jitter, r.Rate*100+r.Buffer)
		s := freshState(r.Kinds)
		var sent, came, lost pair
		for count, by := range late {
			_, round := stepByWords(t, r, s, by)
			s = checkByWords(t, r, s, by)
			rounds, end, why := duel.Play(r, late[:count+1])
			if why != api.OK || end != s || len(rounds) != count+1 || rounds[count] != round {
				t.Fatalf("Play of %v and %v is %v, %v and %v, not %v and %v at last", r, late[:count+1], rounds, end, why, round, s)
			}
			// What is sent comes, is lost, or waits.
			for flow := range sent {
				sent[flow] += round.Sent[flow]
				came[flow] += round.Came[flow]
				lost[flow] += round.Lost[flow]
				if sent[flow] != came[flow]+lost[flow]+end.Waits[flow] {
					t.Fatalf("of %v, by %v, %v are sent, %v come, %v are lost, and %v wait", r, late[:count+1], sent, came, lost, end.Waits)
				}
			}
		}
		if t.Failed() {
			return
		}
	}
}

func TestPlay(t *testing.T) {
	const v, c, l = api.Vegas, api.Copa, api.Ledbat
	type after struct {
		round api.Round
		end   api.State
	}
	for _, x := range []struct {
		r    api.Rules
		late []pair
		want []after
	}{
		{rulesOf(pair{c, l}, 3, 8, 2), []pair{{0, 0}, {2, 0}, {0, 1}, {1, 2}, {2, 2}}, []after{
			{api.Round{Sent: pair{1, 1}, Came: pair{1, 1}}, api.State{Flows: [2]api.Control{{Kind: c, Window: 2, Way: 1, Speed: 1}, {Kind: l, Window: 1, Part: 2}}}},
			{api.Round{Sent: pair{2, 1}, Came: pair{2, 1}}, api.State{Flows: [2]api.Control{{Kind: c, Window: 4, Way: 1, Speed: 2}, {Kind: l, Window: 2}}}},
			{api.Round{Sent: pair{4, 2}, Came: pair{2, 1}}, api.State{Flows: [2]api.Control{{Kind: c, Window: 8, Way: 1, Speed: 4}, {Kind: l, Window: 2, Part: 1}}, Waits: pair{2, 1}}},
			{api.Round{Sent: pair{8, 2}, Came: pair{2, 1}, Lost: pair{2, 0}}, api.State{Flows: [2]api.Control{{Kind: c, Window: 7, Way: -1, Speed: 1}, {Kind: l, Window: 2}}, Waits: pair{6, 2}}},
			{api.Round{Sent: pair{7, 2}, Came: pair{3, 0}, Lost: pair{5, 1}}, api.State{Flows: [2]api.Control{{Kind: c, Window: 5, Way: -1, Speed: 2}, {Kind: l, Window: 1, Part: 2}}, Waits: pair{5, 3}}},
		}},
		{rulesOf(pair{v, v}, 2, 4, 0), []pair{{}, {}, {}, {}}, []after{
			{api.Round{Sent: pair{1, 1}, Came: pair{1, 1}}, api.State{Flows: [2]api.Control{{Kind: v, Window: 2}, {Kind: v, Window: 2}}}},
			{api.Round{Sent: pair{2, 2}, Came: pair{1, 1}}, api.State{Flows: [2]api.Control{{Kind: v, Window: 3}, {Kind: v, Window: 3}}, Waits: pair{1, 1}}},
			{api.Round{Sent: pair{3, 3}, Came: pair{1, 1}, Lost: pair{1, 1}}, api.State{Flows: [2]api.Control{{Kind: v, Window: 3}, {Kind: v, Window: 3}}, Waits: pair{2, 2}}},
			{api.Round{Sent: pair{3, 3}, Came: pair{2, 0}, Lost: pair{2, 2}}, api.State{Flows: [2]api.Control{{Kind: v, Window: 3}, {Kind: v, Window: 3}}, Waits: pair{1, 3}}},
		}},
	} {
		var want []api.Round
		for count, w := range x.want {
			want = append(want, w.round)
			if rounds, end, why := duel.Play(x.r, x.late[:count+1]); why != api.OK || end != w.end || !slices.Equal(rounds, want) {
				t.Errorf("Play of %v and %v is %v, %v and %v, not %v and %v", x.r, x.late[:count+1], rounds, end, why, want, w.end)
			}
		}
	}
}

func TestPlayOfNothing(t *testing.T) {
	for _, kinds := range allKinds() {
		for _, r := range ordinary(kinds) {
			for _, late := range [][]pair{nil, {}, make([]pair, 0, 5)} {
				if rounds, end, why := duel.Play(r, late); len(rounds) != 0 || end != freshState(kinds) || why != api.OK {
					t.Errorf("Play of %v and nothing is %v, %v and %v", r, rounds, end, why)
				}
			}
		}
	}
}

func TestManyRounds(t *testing.T) {
	for _, kinds := range allKinds() {
		for _, r := range append(ordinary(kinds), rulesOf(kinds, 6, roomiest, 0), rulesOf(kinds, 2, 3, latest)) {
			late := draws(5000, r.Jitter, 7)
			s, why := duel.Start(r)
			var want []api.Round
			for _, by := range late {
				var round api.Round
				if s, round, why = duel.Step(r, s, by); why != api.OK {
					t.Fatalf("Step of %v is %v", r, why)
				}
				want = append(want, round)
			}
			if rounds, end, why := duel.Play(r, late); why != api.OK || end != s || !slices.Equal(rounds, want) {
				t.Errorf("Play of %v is %v rounds, %v and %v, and not what Step tells: %v", r, len(rounds), end, why, s)
			}
		}
	}
}

func TestPlayOfNone(t *testing.T) {
	for _, kinds := range allKinds() {
		for _, r := range ordinary(kinds) {
			good := draws(9, r.Jitter, 3)
			for _, n := range row(-1, r.Jitter+1, least, greatest) {
				for _, bad := range []pair{{n, 0}, {0, n}, {n, n}, {n, -n}} {
					checkNoPlay(t, r, []pair{bad}, api.ErrRange)
					for at := range good {
						// First, between and last, alone and with all behind it likewise.
						late := slices.Clone(good)
						late[at] = bad
						checkNoPlay(t, r, late, api.ErrRange)
						checkNoPlay(t, r, append(late[:at:at], slices.Repeat([]pair{bad}, 3)...), api.ErrRange)
						other := r
						other.Kinds[at%2] = 0
						checkNoPlay(t, other, late, api.ErrKind)
					}
				}
			}
		}
	}
}

// Neither late nor the spare room behind it is changed, and the rounds are the caller's.
func TestHandedIn(t *testing.T) {
	for _, kinds := range allKinds() {
		for _, r := range ordinary(kinds) {
			room := append(draws(50, r.Jitter, 5), pair{-1, 99}, pair{least, greatest})
			was := slices.Clone(room)
			rounds, end, why := duel.Play(r, room[:50])
			if why != api.OK || !slices.Equal(room, was) {
				t.Errorf("Play of %v is %v, and late is %v, not %v", r, why, room, was)
			}
			want := slices.Clone(rounds)
			clear(room)
			again, endAgain, _ := duel.Play(r, was[:50])
			clear(again)
			if endAgain != end || !slices.Equal(rounds, want) {
				t.Errorf("Play of %v is %v and then %v, with rounds that are shared", r, end, endAgain)
			}
		}
	}
}

// How late packets may be changes nothing for those that are not.
func TestJitterOnlyBounds(t *testing.T) {
	for r := range allRules {
		late := draws(30, r.Jitter, r.Buffer)
		wider := r
		wider.Jitter = latest
		rounds, end, _ := duel.Play(r, late)
		if others, otherEnd, why := duel.Play(wider, late); why != api.OK || otherEnd != end || !slices.Equal(rounds, others) {
			t.Fatalf("Play of %v and of %v differ by %v", r, wider, late)
		}
	}
}

// Two of one kind, equally late, know the same.
func TestTwoOfOneKind(t *testing.T) {
	for r := range allRules {
		if r.Kinds[0] != r.Kinds[1] {
			continue
		}
		late := draws(60, r.Jitter, r.Rate)
		for i := range late {
			late[i][1] = late[i][0]
		}
		rounds, end, why := duel.Play(r, late)
		if why != api.OK || end.Flows[0] != end.Flows[1] {
			t.Fatalf("Play of %v and %v is %v and %v", r, late, end, why)
		}
		for _, round := range rounds {
			if round.Sent[0] != round.Sent[1] {
				t.Fatalf("Play of %v and %v sends %v", r, late, round.Sent)
			}
		}
	}
}
