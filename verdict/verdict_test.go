package verdict_test

import (
	"math"
	"slices"
	"testing"
	"time"

	"tidewait/api"
	"tidewait/duel"
	"tidewait/steady"
	"tidewait/verdict"
)

const (
	least    = math.MinInt
	greatest = math.MaxInt
	fastest  = api.MaxWindow
	roomiest = api.MaxBuffer
	latest   = api.MaxJitter
	maxRatio = 100

	v = api.Vegas
	c = api.Copa
	l = api.Ledbat
)

// pair tells one number of each flow, or who and the ratio.
type pair = [2]int

func row(l ...int) []int { return l }

func rulesOf(kinds pair, rate, buffer, jitter int) api.Rules {
	return api.Rules{Kinds: kinds, Rate: rate, Buffer: buffer, Jitter: jitter}
}

// withJitter is all else as in r.
func withJitter(r api.Rules, jitter int) api.Rules {
	return rulesOf(r.Kinds, r.Rate, r.Buffer, jitter)
}

// allKinds is each pair of kinds that there is.
func allKinds() []pair {
	return []pair{{v, v}, {v, c}, {v, l}, {c, v}, {c, c}, {c, l}, {l, v}, {l, c}, {l, l}}
}

// asked is what may be asked: who, and the ratio.
func asked() []pair {
	return []pair{{0, 1}, {0, 2}, {0, 3}, {0, maxRatio}, {1, 1}, {1, 2}, {1, 3}, {1, maxRatio}}
}

// wronglyAsked is what may not be: each of both wrong alone, and both.
func wronglyAsked() []pair {
	var out []pair
	for _, who := range row(-1, 2, -2, 3, 100, least, greatest, least+1, 1<<32, 1<<32+1) {
		for _, ratio := range row(0, 1, 2, maxRatio, maxRatio+1, -1, least, greatest) {
			out = append(out, pair{who, ratio})
		}
	}
	for _, ratio := range row(0, maxRatio+1, -1, -maxRatio, maxRatio+2, least, greatest, 1<<32, 1<<32+1) {
		out = append(out, pair{0, ratio}, pair{1, ratio})
	}
	return out
}

func judge(r api.Rules, ask pair) (api.Verdict, api.Errno) {
	return verdict.Judge(r, ask[0], ask[1])
}

func threshold(r api.Rules, ask pair) (int, api.Errno) {
	return verdict.Threshold(r, ask[0], ask[1])
}

func same(one, other api.Verdict) bool {
	return one.Kind == other.Kind && one.Most == other.Most && slices.Equal(one.Lead, other.Lead) && slices.Equal(one.Round, other.Round)
}

// checkNoVerdict sees that this error is told, and nothing else.
func checkNoVerdict(t *testing.T, r api.Rules, ask pair, want api.Errno) {
	t.Helper()
	if got, why := judge(r, ask); !same(got, api.Verdict{}) || why != want {
		t.Errorf("Judge of %v and %v is %v and %v, not nothing but %v", r, ask, got, why, want)
	}
}

func checkBounded(t *testing.T, r api.Rules, ask pair, most int) {
	t.Helper()
	if got, why := judge(r, ask); !same(got, api.Verdict{Kind: api.Bounded, Most: most}) || why != api.OK {
		t.Errorf("Judge of %v and %v is %v and %v, not Bounded by %v", r, ask, got, why, most)
	}
}

// checkStarves sees that what is told leads to a state, and round to it, and that who has more by it.
func checkStarves(t *testing.T, r api.Rules, ask pair) api.Verdict {
	t.Helper()
	got, why := judge(r, ask)
	if got.Kind != api.Starves || got.Most != 0 || why != api.OK {
		t.Errorf("Judge of %v and %v is %v and %v, not Starves", r, ask, got, why)
		return got
	}
	if len(got.Lead) > api.MaxStates || len(got.Round) < 1 || len(got.Round) > api.MaxStates {
		t.Errorf("Judge of %v and %v leads by %v rounds and goes round by %v", r, ask, len(got.Lead), len(got.Round))
	}
	for _, late := range slices.Concat(got.Lead, got.Round) {
		if min(late[0], late[1]) < 0 || max(late[0], late[1]) > r.Jitter {
			t.Errorf("Judge of %v and %v has %v late", r, ask, late)
		}
	}
	_, at, _ := duel.Play(r, got.Lead)
	rounds, end, why := duel.Play(r, slices.Concat(got.Lead, got.Round))
	if why != api.OK || end != at {
		t.Errorf("Judge of %v and %v leads to %v, and round to %v and %v", r, ask, at, end, why)
		return got
	}
	ours, theirs := 0, 0
	for _, round := range rounds[len(got.Lead):] {
		ours += round.Came[ask[0]]
		theirs += round.Came[1-ask[0]]
	}
	if ours <= ask[1]*theirs {
		t.Errorf("of %v and %v, %v come in a round of Judge, and %v of the other one", r, ask, ours, theirs)
	}
	return got
}

func checkThreshold(t *testing.T, r api.Rules, ask pair, want int, errno api.Errno) {
	t.Helper()
	if got, why := threshold(r, ask); got != want || why != errno {
		t.Errorf("Threshold of %v and %v is %v and %v, not %v and %v", r, ask, got, why, want, errno)
	}
}

// checkNothing sees that both tell this error, and nothing else.
func checkNothing(t *testing.T, r api.Rules, ask pair, want api.Errno) {
	t.Helper()
	checkNoVerdict(t, r, ask, want)
	checkThreshold(t, r, ask, 0, want)
}

// wrongRules is each fault that duel.Start tells, alone and beside others.
func wrongRules(yield func(api.Rules, api.Errno) bool) {
	var rules []api.Rules
	for _, kinds := range allKinds() {
		for _, none := range row(0, 4, -1, least, greatest) {
			for _, wrong := range []pair{{none, kinds[1]}, {kinds[0], none}, {none, none}} {
				rules = append(rules, rulesOf(wrong, 3, 4, 1), rulesOf(wrong, 0, 4, 1), rulesOf(wrong, 3, -1, latest+1), rulesOf(wrong, 1, 0, greatest))
			}
		}
		for _, rate := range row(0, fastest+1, -1, least, greatest) {
			rules = append(rules, rulesOf(kinds, rate, 4, 0), rulesOf(kinds, rate, 0, latest), rulesOf(kinds, rate, -1, latest+1))
		}
		for _, buffer := range row(-1, roomiest+1, least, greatest) {
			rules = append(rules, rulesOf(kinds, 1, buffer, 0), rulesOf(kinds, fastest, buffer, latest))
		}
		// By a rate of 1 the first flow starves the other one without any jitter: what is wrong is told nonetheless.
		for _, jitter := range row(-1, latest+1, least, greatest) {
			rules = append(rules, rulesOf(kinds, 1, 0, jitter), rulesOf(kinds, 1, 4, jitter), rulesOf(kinds, fastest, roomiest, jitter))
		}
	}
	for _, r := range append(rules, api.Rules{}) {
		if _, why := duel.Start(r); !yield(r, why) {
			return
		}
	}
}

func TestWrongRules(t *testing.T) {
	told := map[api.Errno]int{}
	for r, why := range wrongRules {
		told[why]++
		for _, ask := range asked() {
			checkNothing(t, r, ask, why)
		}
	}
	if len(told) != 2 || told[api.ErrKind] == 0 || told[api.ErrRange] == 0 {
		t.Errorf("the rules have errors %v, not ErrKind and ErrRange", told)
	}
}

// Who and ratio come ahead of all that may be wrong of the rules, and of all that may come of them.
func TestWronglyAsked(t *testing.T) {
	for _, ask := range wronglyAsked() {
		for _, kinds := range allKinds() {
			checkNothing(t, rulesOf(kinds, 1, 4, 0), ask, api.ErrRange)
			checkNothing(t, rulesOf(kinds, 2, 4, 1), ask, api.ErrRange)
			checkNothing(t, rulesOf(kinds, fastest, roomiest, latest), ask, api.ErrRange)
		}
		for r := range wrongRules {
			checkNothing(t, r, ask, api.ErrRange)
		}
	}
}

// Both vegas go on alike, but for one round in which two packets of the first flow come, and then one of each comes for ever.
func TestOneRoundAhead(t *testing.T) {
	r := rulesOf(pair{v, v}, 2, 4, 0)
	for _, ratio := range row(1, 2, 3, maxRatio) {
		checkBounded(t, r, pair{0, ratio}, 2)
		checkBounded(t, r, pair{1, ratio}, 0)
		checkThreshold(t, r, pair{0, ratio}, 0, api.ErrNone)
		checkThreshold(t, r, pair{1, ratio}, 0, api.ErrNone)
	}
}

// One packet of the first flow comes in the first round, one of the second flow in the next one, and from the third one on only the first flow's.
func TestOnlyOneComes(t *testing.T) {
	r := rulesOf(pair{v, v}, 1, 2, 1)
	for _, ratio := range row(1, 2, 3, maxRatio) {
		got := checkStarves(t, r, pair{0, ratio})
		if len(got.Lead) < 2 {
			t.Errorf("Judge of %v and %v leads by %v, and by then both come", r, ratio, got.Lead)
		}
		checkBounded(t, r, pair{1, ratio}, 1)
		checkThreshold(t, r, pair{0, ratio}, 0, api.OK)
		checkThreshold(t, r, pair{1, ratio}, 0, api.ErrNone)
	}
}

// A walk that weighs most may begin behind rounds that weigh less than nothing, so that none from the start on weighs as much.
func TestWalksBeginAnywhere(t *testing.T) {
	for _, x := range []struct {
		r     api.Rules
		ask   pair
		start int // the most that a walk weighs from there on
		most  int
	}{
		{rulesOf(pair{v, l}, 5, 14, 0), pair{0, 2}, 13, 17}, {rulesOf(pair{l, c}, 9, 5, 0), pair{1, 2}, 5, 6}, {rulesOf(pair{c, c}, 4, 15, 0), pair{0, 2}, 5, 12},
		{rulesOf(pair{v, v}, 2, 8, 1), pair{0, 2}, 5, 8}, {rulesOf(pair{c, v}, 3, 16, 1), pair{0, maxRatio}, 0, 30}, {rulesOf(pair{l, v}, 2, 8, 1), pair{1, 3}, 0, 2},
		{rulesOf(pair{c, v}, 2, 13, 2), pair{0, 2}, 15, 18}, {rulesOf(pair{v, c}, 2, 16, 2), pair{0, 3}, 12, 18},
		{rulesOf(pair{v, v}, 1, 3, 3), pair{1, 2}, 0, 1}, {rulesOf(pair{c, c}, 1, 8, 3), pair{1, 1}, 0, 1},
	} {
		checkBounded(t, x.r, x.ask, x.most)
		heavy, _ := heaviestWalks(x.r, x.ask)
		if start := max(0, slices.Max(heavy[0])); start != x.start || mostOf(heavy) != x.most {
			t.Errorf("of %v and %v walks from the start on weigh up to %v, and all up to %v", x.r, x.ask, start, mostOf(heavy))
		}
	}
}

// Where a round weighs just 0 nobody starves: one ratio more makes it so.
func TestJustAsMuch(t *testing.T) {
	for _, x := range []struct {
		r     api.Rules
		who   int
		ratio int // the greatest that starves
	}{
		{rulesOf(pair{v, v}, 7, 0, 1), 0, 2}, {rulesOf(pair{v, v}, 7, 0, 1), 1, 2},
		{rulesOf(pair{v, v}, 5, 0, 1), 1, 1}, {rulesOf(pair{v, l}, 4, 12, 0), 0, 2},
		{rulesOf(pair{l, v}, 4, 16, 0), 1, 2}, {rulesOf(pair{v, v}, 1, 0, 1), 0, maxRatio},
	} {
		for ratio := 1; ratio <= maxRatio; ratio++ {
			ask := pair{x.who, ratio}
			if ratio <= x.ratio {
				checkStarves(t, x.r, ask)
			} else if got, why := judge(x.r, ask); got.Kind != api.Bounded || why != api.OK {
				t.Errorf("Judge of %v and %v is %v and %v, not Bounded", x.r, ask, got, why)
			}
		}
	}
}

// someRules have no more than MaxStates states, one of each pair of kinds and jitter where there are such.
func someRules() []api.Rules {
	out := []api.Rules{
		rulesOf(pair{v, v}, 1, 8, 1), rulesOf(pair{v, v}, 1, 3, 2), rulesOf(pair{v, v}, 1, 5, 3), rulesOf(pair{v, v}, 4, 10, 1), rulesOf(pair{v, v}, 9, 0, 1),
		rulesOf(pair{v, c}, 1, 4, 1), rulesOf(pair{v, c}, 1, 6, 2), rulesOf(pair{v, c}, 1, 8, 3), rulesOf(pair{v, c}, 5, 11, 1),
		rulesOf(pair{v, l}, 1, 5, 1), rulesOf(pair{v, l}, 1, 14, 2), rulesOf(pair{v, l}, 1, 5, 3),
		rulesOf(pair{c, v}, 1, 4, 1), rulesOf(pair{c, v}, 2, 16, 2), rulesOf(pair{c, v}, 1, 5, 3), rulesOf(pair{c, v}, 5, 16, 1),
		rulesOf(pair{c, c}, 2, 5, 1), rulesOf(pair{c, c}, 2, 10, 2), rulesOf(pair{c, c}, 1, 10, 3), rulesOf(pair{c, c}, 4, 8, 1),
		rulesOf(pair{c, l}, 3, 13, 1), rulesOf(pair{c, l}, 1, 13, 2),
		rulesOf(pair{l, v}, 2, 5, 1), rulesOf(pair{l, v}, 1, 3, 2),
		rulesOf(pair{l, c}, 1, 9, 1), rulesOf(pair{l, c}, 1, 4, 2),
		rulesOf(pair{l, l}, 1, 10, 1),
	}
	for _, kinds := range allKinds() {
		out = append(out, rulesOf(kinds, 3, 8, 0), rulesOf(kinds, 1, 0, 0), rulesOf(kinds, fastest, roomiest, 0))
	}
	return out
}

// fullRules have far more states than MaxStates.
func fullRules() []api.Rules {
	var out []api.Rules
	for _, kinds := range allKinds() {
		for jitter := 1; jitter <= latest; jitter++ {
			out = append(out, rulesOf(kinds, 6, roomiest, jitter), rulesOf(kinds, fastest, roomiest-3, jitter))
		}
		out = append(out, rulesOf(kinds, 3, 1, latest), rulesOf(kinds, fastest, 7, latest))
	}
	return out
}

func TestFull(t *testing.T) {
	for _, r := range fullRules() {
		for _, ask := range asked() {
			checkNoVerdict(t, r, ask, api.ErrFull)
		}
	}
}

// No rules have just MaxStates states: so one fewer and one more are next to the bound.
func TestAtTheBoundOfStates(t *testing.T) {
	for _, r := range []api.Rules{rulesOf(pair{v, v}, 4, 10, 1), rulesOf(pair{c, v}, 2, 16, 2), rulesOf(pair{c, v}, 5, 16, 1)} {
		if states, _ := steady.States(r); len(states) != api.MaxStates-1 {
			t.Errorf("%v has %v states, not one fewer than MaxStates", r, len(states))
		}
		for _, ask := range asked() {
			checkJudge(t, r, ask)
		}
	}
	for _, r := range []api.Rules{rulesOf(pair{c, c}, 4, 9, 1), rulesOf(pair{c, c}, 5, 11, 1), rulesOf(pair{c, c}, 5, 12, 1), rulesOf(pair{c, c}, 5, 13, 1)} {
		for _, ask := range asked() {
			checkNoVerdict(t, r, ask, api.ErrFull)
		}
	}
}

// thresholds is one of each that may be told, and what Judge tells of the rules themselves. No rules have a first jitter of 2 or 3 that starves: see TestAllRules.
func thresholds() []struct {
	r     api.Rules
	ask   pair
	want  int
	why   api.Errno
	judge api.Errno
} {
	return []struct {
		r     api.Rules
		ask   pair
		want  int
		why   api.Errno
		judge api.Errno
	}{
		// It starves without jitter, and so it does with more.
		{rulesOf(pair{v, v}, 1, 0, 0), pair{0, 1}, 0, api.OK, api.OK},
		{rulesOf(pair{v, c}, 5, 16, 1), pair{0, 1}, 0, api.OK, api.OK},
		{rulesOf(pair{l, c}, 1, 8, 2), pair{0, maxRatio}, 0, api.OK, api.OK},
		{rulesOf(pair{c, c}, 1, 9, 3), pair{0, 3}, 0, api.OK, api.OK},
		{rulesOf(pair{l, v}, 4, 16, 0), pair{1, 2}, 0, api.OK, api.OK},
		// It does not without, but with a jitter of 1.
		{rulesOf(pair{v, v}, 5, 0, 1), pair{1, 1}, 1, api.OK, api.OK},
		{rulesOf(pair{v, v}, 7, 0, 1), pair{0, 2}, 1, api.OK, api.OK},
		{rulesOf(pair{v, v}, 12, 0, 1), pair{1, 3}, 1, api.OK, api.OK},
		{rulesOf(pair{v, c}, 4, 8, 1), pair{0, 1}, 1, api.OK, api.OK},
		{rulesOf(pair{c, v}, 5, 10, 1), pair{1, 1}, 1, api.OK, api.OK},
		{rulesOf(pair{c, c}, 4, 16, 1), pair{1, 1}, 1, api.OK, api.OK},
		// The rules' own jitter has too many states, but a smaller one starves.
		{rulesOf(pair{v, v}, 5, 2, 1), pair{0, 1}, 0, api.OK, api.ErrFull},
		{rulesOf(pair{c, v}, 10, 16, 2), pair{1, 1}, 0, api.OK, api.ErrFull},
		{rulesOf(pair{l, l}, 1, 9, 3), pair{0, maxRatio}, 0, api.OK, api.ErrFull},
		{rulesOf(pair{v, v}, 5, 0, 2), pair{1, 1}, 1, api.OK, api.ErrFull},
		{rulesOf(pair{v, v}, 5, 0, 3), pair{1, 1}, 1, api.OK, api.ErrFull},
		{rulesOf(pair{v, v}, 9, 0, 3), pair{0, 3}, 1, api.OK, api.ErrFull},
		{rulesOf(pair{c, c}, 4, 8, 2), pair{0, 1}, 1, api.OK, api.ErrFull},
		{rulesOf(pair{c, v}, 5, 10, 3), pair{1, 1}, 1, api.OK, api.ErrFull},
		// None starves.
		{rulesOf(pair{v, v}, 1, 0, 0), pair{1, 1}, 0, api.ErrNone, api.OK},
		{rulesOf(pair{v, v}, 5, 0, 0), pair{1, 1}, 0, api.ErrNone, api.OK},
		{rulesOf(pair{v, v}, 7, 0, 1), pair{0, 3}, 0, api.ErrNone, api.OK},
		{rulesOf(pair{l, c}, 2, 13, 1), pair{0, 1}, 0, api.ErrNone, api.OK},
		{rulesOf(pair{c, v}, 2, 13, 2), pair{0, 1}, 0, api.ErrNone, api.OK},
		{rulesOf(pair{c, c}, 1, 14, 3), pair{1, 1}, 0, api.ErrNone, api.OK},
		// The first jitter that is not bounded has too many states: the rules' own, or a smaller one.
		{rulesOf(pair{v, v}, 4, 3, 1), pair{0, 1}, 0, api.ErrFull, api.ErrFull},
		{rulesOf(pair{l, l}, 6, 6, 1), pair{0, 1}, 0, api.ErrFull, api.ErrFull},
		{rulesOf(pair{v, v}, 7, 0, 2), pair{0, 3}, 0, api.ErrFull, api.ErrFull},
		{rulesOf(pair{c, c}, 10, 8, 2), pair{0, 1}, 0, api.ErrFull, api.ErrFull},
		{rulesOf(pair{v, v}, 1, 0, 3), pair{1, 1}, 0, api.ErrFull, api.ErrFull},
		{rulesOf(pair{c, v}, 2, 13, 3), pair{0, 1}, 0, api.ErrFull, api.ErrFull},
	}
}

func TestThreshold(t *testing.T) {
	for _, x := range thresholds() {
		checkThreshold(t, x.r, x.ask, x.want, x.why)
		if _, why := judge(x.r, x.ask); why != x.judge {
			t.Errorf("Judge of %v and %v tells %v, not %v", x.r, x.ask, why, x.judge)
		}
		checkEachJitter(t, x.r, x.ask)
	}
}

// checkEachJitter holds Threshold against Judge, jitter by jitter: those ahead of it are bounded, and it is not. It answers the jitter that is told.
func checkEachJitter(t *testing.T, r api.Rules, ask pair) int {
	t.Helper()
	got, why := threshold(r, ask)
	for jitter := range r.Jitter + 1 {
		judged, errno := judge(withJitter(r, jitter), ask)
		if errno == api.OK && judged.Kind == api.Bounded {
			continue
		}
		want := 0
		if errno == api.OK {
			want = jitter
		}
		if got != want || why != errno {
			t.Errorf("Threshold of %v and %v is %v and %v, and Judge of jitter %v is %v and %v", r, ask, got, why, jitter, judged, errno)
		}
		return got
	}
	if got != 0 || why != api.ErrNone {
		t.Errorf("Threshold of %v and %v is %v and %v, and all jitters are Bounded", r, ask, got, why)
	}
	return got
}

func TestThresholdOfSomeRules(t *testing.T) {
	for _, r := range someRules() {
		for jitter := range latest + 1 {
			for _, ask := range asked() {
				checkEachJitter(t, withJitter(r, jitter), ask)
			}
		}
	}
	for _, r := range fullRules() {
		checkEachJitter(t, r, pair{0, 1})
		checkEachJitter(t, r, pair{1, 2})
	}
}

// spoil changes what was answered, and the spare room behind it.
func spoil(draws []pair) {
	for i := range draws[:cap(draws)] {
		draws[:cap(draws)][i] = pair{-7, -7}
	}
}

func TestTheSameAtEachCall(t *testing.T) {
	full := fullRules()
	for i, r := range someRules() {
		for _, ask := range asked() {
			first, _ := judge(r, ask)
			second, _ := judge(r, ask)
			jitter, why := threshold(r, ask)
			if !same(first, second) {
				t.Errorf("Judge of %v and %v is %v, and then %v", r, ask, first, second)
			}
			// Both lists of one answer are memory of their own.
			spoil(first.Lead)
			if !slices.Equal(first.Round, second.Round) {
				t.Errorf("Round of %v and %v is %v, and behind changes of Lead %v", r, ask, second.Round, first.Round)
			}
			spoil(first.Round)
			// Neither what was answered nor what is asked between hangs on anything here.
			judge(full[i%len(full)], ask)
			threshold(api.Rules{}, ask)
			third, _ := judge(r, ask)
			if !same(third, second) {
				t.Errorf("Judge of %v and %v is %v, and behind changes %v", r, ask, second, third)
			}
			checkThreshold(t, r, ask, jitter, why)
		}
	}
}

// TestAllEndSoon gives far more time than is needed, but not enough to go through all states of a duel that has too many, nor to all jitters below the greatest int.
func TestAllEndSoon(t *testing.T) {
	ended := make(chan struct{})
	go func() {
		defer close(ended)
		for _, r := range append(fullRules(), rulesOf(pair{c, v}, 2, 16, 2), rulesOf(pair{v, v}, 1, 3, 3), rulesOf(pair{v, v}, 1, 0, greatest)) {
			for _, ask := range append(asked(), pair{least, greatest}, pair{greatest, least}) {
				judge(r, ask)
				threshold(r, ask)
			}
		}
	}()
	select {
	case <-ended:
	case <-time.After(30 * time.Second):
		t.Fatal("not all is told within 30 seconds")
	}
}
