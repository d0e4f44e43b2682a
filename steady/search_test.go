package steady_test

import (
	"fmt"
	"slices"
	"testing"

	"tidewait/api"
	"tidewait/duel"
	"tidewait/potential"
	"tidewait/steady"
)

// searched is what a plain search tells: states, the run by which each was found, and all steps.
type searched struct {
	states []api.State
	runs   [][]pair
	steps  []walked
}

type walked struct {
	from, to int
	came     pair
}

// plain searches until there are more states than so many.
func plain(r api.Rules, most int) searched {
	start, _ := duel.Start(r)
	s := searched{states: []api.State{start}, runs: [][]pair{nil}}
	for from := 0; from < len(s.states); from++ {
		for first := 0; first <= r.Jitter; first++ {
			for second := 0; second <= r.Jitter; second++ {
				late := pair{first, second}
				next, round, _ := duel.Step(r, s.states[from], late)
				to := slices.Index(s.states, next)
				if to < 0 {
					to = len(s.states)
					s.states = append(s.states, next)
					s.runs = append(s.runs, slices.Concat(s.runs[from], []pair{late}))
				}
				if len(s.states) > most {
					return s
				}
				s.steps = append(s.steps, walked{from, to, round.Came})
			}
		}
	}
	return s
}

func (s searched) edges(who, ratio int) []api.Edge {
	var out []api.Edge
	for _, w := range s.steps {
		ours, theirs := w.came[0], w.came[1]
		if who == 1 {
			ours, theirs = theirs, ours
		}
		out = append(out, api.Edge{From: w.from, To: w.to, Weight: ours - ratio*theirs})
	}
	return out
}

// rulesOfKinds is each of them that is not wrong.
func rulesOfKinds(kinds pair) []api.Rules {
	var out []api.Rules
	for rate := 1; rate <= fastest; rate++ {
		for buffer := range roomiest + 1 {
			for jitter := range latest + 1 {
				out = append(out, rulesOf(kinds, rate, buffer, jitter))
			}
		}
	}
	return out
}

// checkPlain holds what is told against a plain search: of the leads some, from the first one on to the last.
func checkPlain(t *testing.T, r api.Rules, want searched) {
	t.Helper()
	checkStates(t, r, want.states)
	for n := 0; n < len(want.states); n += 1 + len(want.states)/8 {
		checkLead(t, r, n, want.runs[n])
	}
	last := len(want.states) - 1
	checkLead(t, r, last, want.runs[last])
	checkNoLead(t, r, last+1, api.ErrNone)
	checkNoLead(t, r, -1, api.ErrNone)
	for _, ask := range asked() {
		checkGraph(t, r, ask, len(want.states), want.edges(ask[0], ask[1]))
	}
}

func TestAllRules(t *testing.T) {
	for _, kinds := range allKinds() {
		t.Run(fmt.Sprint(kinds), func(t *testing.T) {
			t.Parallel()
			for _, r := range rulesOfKinds(kinds) {
				want := plain(r, api.MaxStates)
				if len(want.states) <= api.MaxStates {
					checkPlain(t, r, want)
				} else {
					checkNoStates(t, r, api.ErrFull)
					if r.Rate%2 == 0 {
						checkNoLead(t, r, r.Buffer, api.ErrFull)
					} else {
						checkNoGraph(t, r, pair{r.Buffer % 2, r.Rate}, api.ErrFull)
					}
				}
				// One fault may show in many of them.
				if t.Failed() {
					return
				}
			}
		})
	}
}

// Of rules without jitter the states are those of one run, up to the first one that was there before.
func TestOneRun(t *testing.T) {
	for _, kinds := range allKinds() {
		for _, r := range rulesOfKinds(kinds) {
			if r.Jitter > 0 {
				continue
			}
			var run []api.State
			var came []pair
			s, _ := duel.Start(r)
			for !slices.Contains(run, s) {
				next, round, _ := duel.Step(r, s, pair{})
				run = append(run, s)
				came = append(came, round.Came)
				s = next
			}
			checkStates(t, r, run)
			for n := range run {
				checkLead(t, r, n, make([]pair, n))
			}
			checkNoLead(t, r, len(run), api.ErrNone)
			var edges []api.Edge
			for from, came := range came {
				edges = append(edges, api.Edge{From: from, To: from + 1, Weight: came[0] - 3*came[1]})
			}
			edges[len(run)-1].To = slices.Index(run, s)
			checkGraph(t, r, pair{0, 3}, len(run), edges)
		}
	}
}

// rounds tells of each state in how many rounds it can be come to, at least, going from all states of a round to all of the next one.
func rounds(r api.Rules) map[api.State]int {
	start, _ := duel.Start(r)
	out := map[api.State]int{start: 0}
	for now, count := []api.State{start}, 1; len(now) > 0; count++ {
		var then []api.State
		for _, s := range now {
			for code := range (r.Jitter + 1) * (r.Jitter + 1) {
				// From the last one to the first, since the order does not matter here.
				next, _, _ := duel.Step(r, s, pair{r.Jitter - code%(r.Jitter+1), r.Jitter - code/(r.Jitter+1)})
				if _, known := out[next]; !known {
					out[next] = count
					then = append(then, next)
				}
			}
		}
		now = then
	}
	return out
}

// checkAllLeads looks at each lead by what it leads to, by the leads of the states on its way, and by its length.
func checkAllLeads(t *testing.T, r api.Rules) {
	t.Helper()
	states, why := steady.States(r)
	shortest := rounds(r)
	if why != api.OK || len(shortest) != len(states) {
		t.Fatalf("States of %v are %v and %v, not %v", r, len(states), why, len(shortest))
	}
	leads := make([][]pair, len(states))
	for n, state := range states {
		lead, why := steady.Lead(r, n)
		leads[n] = lead
		if _, end, errno := duel.Play(r, lead); why != api.OK || errno != api.OK || end != state {
			t.Fatalf("Lead of %v and %v is %v and %v, which leads to %v and %v, not %v", r, n, lead, why, end, errno, state)
		}
		if count, known := shortest[state]; !known || len(lead) != count {
			t.Fatalf("Lead of %v and %v is %v, and one of %v leads there too", r, n, lead, count)
		}
		if n == 0 {
			continue
		}
		_, ahead, _ := duel.Play(r, lead[:len(lead)-1])
		if from := slices.Index(states, ahead); from < 0 || from >= n || !slices.Equal(leads[from], lead[:len(lead)-1]) {
			t.Fatalf("Lead of %v and %v is %v, and on its way is state %v", r, n, lead, from)
		}
	}
}

func TestAllLeads(t *testing.T) {
	for _, r := range someRules() {
		t.Run(fmt.Sprint(r), func(t *testing.T) {
			t.Parallel()
			checkAllLeads(t, r)
		})
	}
}

// runsInOrder gives all runs of so many rounds, the last number of the last round changing first.
func runsInOrder(count, jitter int) func(yield func([]pair) bool) {
	return func(yield func([]pair) bool) {
		run := make([]pair, count)
		for {
			if !yield(run) {
				return
			}
			at := 2*count - 1
			for at >= 0 && run[at/2][at%2] == jitter {
				run[at/2][at%2] = 0
				at--
			}
			if at < 0 {
				return
			}
			run[at/2][at%2]++
		}
	}
}

// A state is found first by the first one of all runs that end there, the shorter ones ahead of the longer ones: so the states are in the order of these runs.
func TestTheFirstRunOfAll(t *testing.T) {
	longest := map[int]int{0: 60, 1: 6, 2: 4, 3: 3}
	for _, r := range someRules() {
		t.Run(fmt.Sprint(r), func(t *testing.T) {
			t.Parallel()
			states, _ := steady.States(r)
			met := map[api.State]bool{}
			for count := range longest[r.Jitter] + 1 {
				for run := range runsInOrder(count, r.Jitter) {
					_, end, _ := duel.Play(r, run)
					if met[end] {
						continue
					}
					n := len(met)
					met[end] = true
					if n >= len(states) || states[n] != end {
						t.Fatalf("%v is the first run to %v, which is not state %v", run, end, n)
					}
					checkLead(t, r, n, run)
				}
			}
		})
	}
}

// checkAllSteps looks at each edge by the step that it stands for.
func checkAllSteps(t *testing.T, r api.Rules, ask pair) {
	t.Helper()
	states, _ := steady.States(r)
	g, why := steady.Graph(r, ask[0], ask[1])
	wide := r.Jitter + 1
	if why != api.OK || g.Nodes != len(states) || len(g.Edges) != len(states)*wide*wide {
		t.Fatalf("Graph of %v and %v has %v nodes, %v edges and %v", r, ask, g.Nodes, len(g.Edges), why)
	}
	for number, e := range g.Edges {
		from, code := number/(wide*wide), number%(wide*wide)
		next, round, _ := duel.Step(r, states[from], pair{code / wide, code % wide})
		weight := round.Came[ask[0]] - ask[1]*round.Came[1-ask[0]]
		if e.From != from || e.To < 0 || e.To >= len(states) || states[e.To] != next || e.Weight != weight {
			t.Fatalf("edge %v of %v and %v is %v, and leads to %v by %v", number, r, ask, e, next, round.Came)
		}
	}
	// Whatever rules there are, the layers above take their graph.
	if why := potential.Wrong(g); why != api.OK {
		t.Errorf("Graph of %v and %v is wrong: %v", r, ask, why)
	}
}

func TestAllSteps(t *testing.T) {
	for _, r := range someRules() {
		for _, who := range row(0, 1) {
			for _, ratio := range row(1, 2, 3, 7, 50, maxRatio-1, maxRatio) {
				checkAllSteps(t, r, pair{who, ratio})
			}
		}
	}
}

func TestNoStateTwice(t *testing.T) {
	for _, r := range someRules() {
		states, _ := steady.States(r)
		number := map[api.State]int{}
		for n, s := range states {
			if was, known := number[s]; known {
				t.Errorf("of %v, states %v and %v are both %v", r, was, n, s)
			}
			number[s] = n
			if !duel.Right(r, s) {
				t.Errorf("of %v, state %v is not right: %v", r, n, s)
			}
		}
	}
}

// More that may be late never takes a state away.
func TestMoreJitter(t *testing.T) {
	for _, r := range someRules() {
		wider, _ := steady.States(r)
		for ; r.Jitter > 0; r.Jitter-- {
			narrow := r
			narrow.Jitter--
			states, why := steady.States(narrow)
			if why != api.OK || len(states) >= len(wider) {
				t.Errorf("States of %v are %v and %v, and with more jitter %v", narrow, len(states), why, len(wider))
			}
			for _, s := range states {
				if !slices.Contains(wider, s) {
					t.Errorf("state %v of %v is none with more jitter", s, narrow)
				}
			}
			wider = states
		}
	}
}
