package verdict_test

import (
	"fmt"
	"slices"
	"testing"

	"tidewait/api"
	"tidewait/duel"
	"tidewait/potential"
	"tidewait/steady"
)

// checkJudge holds Judge against what is told of the graph of all states, and answers its kind, or 0 beside an error.
func checkJudge(t *testing.T, r api.Rules, ask pair) int {
	t.Helper()
	g, why := steady.Graph(r, ask[0], ask[1])
	if why != api.OK {
		checkNoVerdict(t, r, ask, why)
		return 0
	}
	if _, why := potential.Cycle(g); why == api.OK {
		checkStarves(t, r, ask)
		return api.Starves
	}
	most, _ := potential.Most(g)
	checkBounded(t, r, ask, slices.Max(most))
	return api.Bounded
}

// weightOf is what a round weighs.
func weightOf(came, ask pair) int {
	return came[ask[0]] - ask[1]*came[1-ask[0]]
}

// noWalk is less than any walk weighs that is looked at.
const noWalk = -1 << 40

// heaviestSteps tells, between each two of all states, what the heaviest step weighs. Nothing of the layers above duel is asked.
func heaviestSteps(r api.Rules, ask pair) [][]int {
	start, _ := duel.Start(r)
	states := []api.State{start}
	var steps []api.Edge
	for from := 0; from < len(states); from++ {
		for code := range (r.Jitter + 1) * (r.Jitter + 1) {
			next, round, _ := duel.Step(r, states[from], pair{code % (r.Jitter + 1), code / (r.Jitter + 1)})
			to := slices.Index(states, next)
			if to < 0 {
				to = len(states)
				states = append(states, next)
			}
			steps = append(steps, api.Edge{From: from, To: to, Weight: weightOf(round.Came, ask)})
		}
	}
	out := make([][]int, len(states))
	for from := range out {
		out[from] = slices.Repeat(row(noWalk), len(states))
	}
	for _, s := range steps {
		out[s.From][s.To] = max(out[s.From][s.To], s.Weight)
	}
	return out
}

// heaviestWalks tells, between each two of all states, what the heaviest walk weighs, or that one that goes round weighs more than 0. Walks come to lead through one state more at a time.
func heaviestWalks(r api.Rules, ask pair) (heavy [][]int, starves bool) {
	heavy = heaviestSteps(r, ask)
	for by := range heavy {
		for from := range heavy {
			if heavy[from][by] == noWalk {
				continue
			}
			for to := range heavy {
				if heavy[by][to] != noWalk {
					heavy[from][to] = max(heavy[from][to], heavy[from][by]+heavy[by][to])
				}
			}
		}
		for node := range heavy {
			if heavy[node][node] > 0 {
				return nil, true
			}
		}
	}
	return heavy, false
}

// mostOf is the most that one of them weighs, or a walk without steps.
func mostOf(heavy [][]int) int {
	most := 0
	for _, line := range heavy {
		most = max(most, slices.Max(line))
	}
	return most
}

func checkPlain(t *testing.T, r api.Rules, ask pair) {
	t.Helper()
	if heavy, starves := heaviestWalks(r, ask); starves {
		checkStarves(t, r, ask)
	} else {
		checkBounded(t, r, ask, mostOf(heavy))
	}
}

// few is how many states a plain search is asked for.
const few = 70

// rulesOfKinds is each of them that is not wrong.
func rulesOfKinds(kinds pair) []api.Rules {
	var out []api.Rules
	for rate := 1; rate <= fastest; rate++ {
		for buffer := range roomiest + 1 {
			for jitter := range latest + 1 {
				out = append(out, rulesOf(kinds, rate, buffer, jitter))
			}
		}
	}
	return out
}

// seen is what was told of some rules with this jitter.
type seen struct {
	jitter int
	kind   int
	why    api.Errno
}

// checkRules looks at one pair of kinds, and tells all that was seen. Of rules with too many states one thing is asked each, in turn.
func checkRules(t *testing.T, kinds pair) map[seen]int {
	told := map[seen]int{}
	for i, r := range rulesOfKinds(kinds) {
		asks := asked()
		states, full := steady.States(r)
		if full != api.OK {
			asks = asks[i/(latest+1)%len(asks):][:1]
		}
		for _, ask := range asks {
			told[seen{r.Jitter, checkJudge(t, r, ask), full}]++
			if r.Jitter > 0 && full == api.OK && len(states) <= few {
				checkPlain(t, r, ask)
			}
			// A jitter of 2 or 3 is the first that starves in none of them: those that starve with it at all do so without.
			if first := checkEachJitter(t, r, ask); first > 1 {
				t.Errorf("Threshold of %v and %v is %v, and TestThreshold has none such", r, ask, first)
			}
		}
		// One fault may show in many of them.
		if t.Failed() {
			break
		}
	}
	return told
}

func TestAllRules(t *testing.T) {
	// With more jitter than this all rules of these kinds have too many states.
	most := map[pair]int{{v, v}: 3, {v, c}: 3, {v, l}: 3, {c, v}: 3, {c, c}: 3, {c, l}: 2, {l, v}: 2, {l, c}: 2, {l, l}: 1}
	for _, kinds := range allKinds() {
		t.Run(fmt.Sprint(kinds), func(t *testing.T) {
			t.Parallel()
			told := checkRules(t, kinds)
			for jitter := range latest + 1 {
				for _, kind := range row(api.Bounded, api.Starves) {
					if some := told[seen{jitter, kind, api.OK}] > 0; some != (jitter <= most[kinds]) {
						t.Errorf("that some are %v with a jitter of %v is %v", kind, jitter, some)
					}
				}
				if some := told[seen{jitter, 0, api.ErrFull}] > 0; some != (jitter > 0) {
					t.Errorf("that some have too many states with a jitter of %v is %v", jitter, some)
				}
			}
		})
	}
}

// Without jitter there is one run, that goes round from some state on: what comes there tells who starves.
func TestOneRun(t *testing.T) {
	for _, kinds := range allKinds() {
		for _, r := range rulesOfKinds(kinds) {
			if r.Jitter > 0 {
				continue
			}
			var run []api.State
			var came []pair
			s, _ := duel.Start(r)
			for !slices.Contains(run, s) {
				next, round, _ := duel.Step(r, s, pair{})
				run = append(run, s)
				came = append(came, round.Came)
				s = next
			}
			again := came[slices.Index(run, s):]
			for _, ask := range asked() {
				sum := 0
				for _, came := range again {
					sum += weightOf(came, ask)
				}
				if sum > 0 {
					checkStarves(t, r, ask)
					checkThreshold(t, r, ask, 0, api.OK)
				} else {
					// A piece that goes round twice weighs no more than without that.
					checkBounded(t, r, ask, heaviestPiece(slices.Concat(came, again), ask))
					checkThreshold(t, r, ask, 0, api.ErrNone)
				}
			}
		}
	}
}

// heaviestPiece is the most that rounds behind one another weigh.
func heaviestPiece(came []pair, ask pair) int {
	most, here := 0, 0
	for _, came := range came {
		here = max(here+weightOf(came, ask), 0)
		most = max(most, here)
	}
	return most
}

// drawn gives numbers that look drawn, always the same ones.
func drawn(seed uint64) func(below int) int {
	return func(below int) int {
		seed = seed*6364136223846793005 + 1442695040888963407
		return int(seed>>33) % below
	}
}

func cameOf(rounds []api.Round) []pair {
	var out []pair
	for _, round := range rounds {
		out = append(out, round.Came)
	}
	return out
}

// What is bounded stays so, whatever is late.
func TestBoundedStaysSo(t *testing.T) {
	draw := drawn(20)
	for _, r := range someRules() {
		lates := make([]pair, 4000)
		for i := range lates {
			lates[i] = pair{draw(r.Jitter + 1), draw(r.Jitter + 1)}
		}
		rounds, _, _ := duel.Play(r, lates)
		came := cameOf(rounds)
		for _, ask := range asked() {
			got, _ := judge(r, ask)
			if piece := heaviestPiece(came, ask); got.Kind == api.Bounded && piece > got.Most {
				t.Errorf("Judge of %v and %v is %v, and rounds behind one another weigh %v", r, ask, got, piece)
			}
		}
	}
}

// Who starves starves for ever: each time round weighs the same again.
func TestStarvesForEver(t *testing.T) {
	starved := 0
	for _, r := range someRules() {
		for _, ask := range asked() {
			got, _ := judge(r, ask)
			if got.Kind != api.Starves {
				continue
			}
			starved++
			const times = 20
			rounds, _, _ := duel.Play(r, slices.Concat(got.Lead, slices.Repeat(got.Round, times)))
			came := cameOf(rounds)[len(got.Lead):]
			sum := 0
			for i, came := range came {
				sum += weightOf(came, ask)
				if turn := (i + 1) / len(got.Round); (i+1)%len(got.Round) == 0 && sum < turn {
					t.Errorf("Judge of %v and %v is %v, and %v times round weigh %v", r, ask, got, turn, sum)
				}
			}
		}
	}
	if starved < 50 {
		t.Errorf("only %v starve", starved)
	}
}

// lessBounded is whether the second verdict, of what has more walks or heavier ones, goes on from the first.
func lessBounded(first, second api.Verdict) bool {
	if first.Kind == api.Starves {
		return second.Kind == api.Starves
	}
	return second.Kind == api.Starves || second.Most >= first.Most
}

func TestMoreJitterAndLessRatio(t *testing.T) {
	for _, r := range someRules() {
		for who := range 2 {
			for _, ratio := range row(1, 2, 3, 4, 10, maxRatio-1) {
				lighter, _ := judge(r, pair{who, ratio + 1})
				heavier, _ := judge(r, pair{who, ratio})
				if !lessBounded(lighter, heavier) {
					t.Errorf("Judge of %v and %v is %v by a ratio of %v, and %v by one more", r, who, heavier, ratio, lighter)
				}
				if r.Jitter == 0 {
					continue
				}
				if calmer, _ := judge(withJitter(r, r.Jitter-1), pair{who, ratio}); !lessBounded(calmer, heavier) {
					t.Errorf("Judge of %v, %v and %v is %v, and %v by less jitter", r, who, ratio, heavier, calmer)
				}
			}
		}
	}
}
