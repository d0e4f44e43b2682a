package steady_test

import (
	"math"
	"slices"
	"testing"
	"time"

	"tidewait/api"
	"tidewait/duel"
	"tidewait/steady"
)

const (
	least    = math.MinInt
	greatest = math.MaxInt
	fastest  = api.MaxWindow
	roomiest = api.MaxBuffer
	latest   = api.MaxJitter
	maxRatio = 100

	v = api.Vegas
	c = api.Copa
	l = api.Ledbat
)

// pair tells one number of each flow.
type pair = [2]int

func row(l ...int) []int { return l }

func rulesOf(kinds pair, rate, buffer, jitter int) api.Rules {
	return api.Rules{Kinds: kinds, Rate: rate, Buffer: buffer, Jitter: jitter}
}

// allKinds is each pair of kinds that there is.
func allKinds() []pair {
	return []pair{{v, v}, {v, c}, {v, l}, {c, v}, {c, c}, {c, l}, {l, v}, {l, c}, {l, l}}
}

// asked is what a graph may be asked for: who, and the ratio.
func asked() []pair {
	return []pair{{0, 1}, {0, 2}, {0, maxRatio}, {1, 1}, {1, 2}, {1, maxRatio}}
}

// wronglyAsked is what it may not be: each of both wrong alone, and both.
func wronglyAsked() []pair {
	var out []pair
	for _, who := range row(-1, 2, -2, 3, 100, least, greatest, least+1, 1<<32, 1<<32+1) {
		for _, ratio := range row(1, 2, maxRatio, 0, maxRatio+1, -1, least, greatest) {
			out = append(out, pair{who, ratio})
		}
	}
	for _, ratio := range row(0, maxRatio+1, -1, -2, -maxRatio, maxRatio+2, least, greatest, 1<<32, 1<<32+1) {
		out = append(out, pair{0, ratio}, pair{1, ratio})
	}
	return out
}

// numbers is of states that there are, or are not.
func numbers() []int {
	return row(0, 1, 2, 20, api.MaxStates-1, api.MaxStates, api.MaxStates+1, -1, least, greatest)
}

func checkNoStates(t *testing.T, r api.Rules, want api.Errno) {
	t.Helper()
	if got, why := steady.States(r); len(got) != 0 || why != want {
		t.Errorf("States of %v are %v and %v, not nothing but %v", r, got, why, want)
	}
}

func checkNoLead(t *testing.T, r api.Rules, n int, want api.Errno) {
	t.Helper()
	if got, why := steady.Lead(r, n); len(got) != 0 || why != want {
		t.Errorf("Lead of %v and %v is %v and %v, not nothing but %v", r, n, got, why, want)
	}
}

func checkNoGraph(t *testing.T, r api.Rules, ask pair, want api.Errno) {
	t.Helper()
	if got, why := steady.Graph(r, ask[0], ask[1]); got.Nodes != 0 || len(got.Edges) != 0 || why != want {
		t.Errorf("Graph of %v and %v is %v and %v, not nothing but %v", r, ask, got, why, want)
	}
}

// checkNothing sees that all three tell this error, and nothing else.
func checkNothing(t *testing.T, r api.Rules, want api.Errno) {
	t.Helper()
	checkNoStates(t, r, want)
	for _, n := range numbers() {
		checkNoLead(t, r, n, want)
	}
	for _, ask := range asked() {
		checkNoGraph(t, r, ask, want)
	}
}

func checkStates(t *testing.T, r api.Rules, want []api.State) {
	t.Helper()
	if got, why := steady.States(r); !slices.Equal(got, want) || why != api.OK {
		t.Errorf("States of %v are %v and %v, not %v", r, got, why, want)
	}
}

func checkLead(t *testing.T, r api.Rules, n int, want []pair) {
	t.Helper()
	if got, why := steady.Lead(r, n); !slices.Equal(got, want) || why != api.OK {
		t.Errorf("Lead of %v and %v is %v and %v, not %v", r, n, got, why, want)
	}
}

func checkGraph(t *testing.T, r api.Rules, ask pair, nodes int, want []api.Edge) {
	t.Helper()
	if got, why := steady.Graph(r, ask[0], ask[1]); got.Nodes != nodes || !slices.Equal(got.Edges, want) || why != api.OK {
		t.Errorf("Graph of %v and %v is %v and %v, not %v nodes and %v", r, ask, got, why, nodes, want)
	}
}

// wrongRules is each fault that duel.Start tells, alone and beside others.
func wrongRules(yield func(api.Rules, api.Errno) bool) {
	var rules []api.Rules
	for _, kinds := range allKinds() {
		for _, none := range row(0, 4, -1, least, greatest) {
			for _, wrong := range []pair{{none, kinds[1]}, {kinds[0], none}, {none, none}} {
				rules = append(rules, rulesOf(wrong, 3, 4, 1), rulesOf(wrong, 0, 4, 1), rulesOf(wrong, 3, -1, latest+1), api.Rules{Kinds: wrong})
			}
		}
		for _, rate := range row(0, fastest+1, -1, least, greatest) {
			rules = append(rules, rulesOf(kinds, rate, 4, 0), rulesOf(kinds, rate, 0, latest), rulesOf(kinds, rate, -1, latest+1))
		}
		for _, buffer := range row(-1, roomiest+1, least, greatest) {
			rules = append(rules, rulesOf(kinds, 1, buffer, 0), rulesOf(kinds, fastest, buffer, latest))
		}
		for _, jitter := range row(-1, latest+1, least, greatest) {
			rules = append(rules, rulesOf(kinds, 1, 0, jitter), rulesOf(kinds, fastest, roomiest, jitter))
		}
	}
	for _, r := range append(rules, api.Rules{}) {
		if _, why := duel.Start(r); !yield(r, why) {
			return
		}
	}
}

func TestWrongRules(t *testing.T) {
	told := map[api.Errno]int{}
	for r, why := range wrongRules {
		told[why]++
		checkNothing(t, r, why)
	}
	if len(told) != 2 || told[api.ErrKind] == 0 || told[api.ErrRange] == 0 {
		t.Errorf("the rules have errors %v, not ErrKind and ErrRange", told)
	}
}

// Who and ratio come ahead of all that may be wrong of the rules, and of all that may come of them.
func TestWronglyAsked(t *testing.T) {
	for _, ask := range wronglyAsked() {
		for _, kinds := range allKinds() {
			checkNoGraph(t, rulesOf(kinds, 2, 4, 0), ask, api.ErrRange)
			checkNoGraph(t, rulesOf(kinds, fastest, roomiest, latest), ask, api.ErrRange)
		}
		for r := range wrongRules {
			checkNoGraph(t, r, ask, api.ErrRange)
		}
	}
}

func TestStatesWithoutJitter(t *testing.T) {
	state := func(window, base int, waits pair) api.State {
		flow := api.Control{Kind: v, Window: window, Base: base}
		return api.State{Flows: [2]api.Control{flow, flow}, Waits: waits}
	}
	r := rulesOf(pair{v, v}, 2, 4, 0)
	checkStates(t, r, []api.State{state(1, -1, pair{}), state(2, 0, pair{}), state(3, 0, pair{1, 1}), state(3, 0, pair{2, 2}), state(3, 0, pair{1, 3})})
	for n := range 5 {
		checkLead(t, r, n, make([]pair, n))
	}
	for _, x := range []struct {
		ask     pair
		weights []int
	}{
		{pair{0, 1}, row(0, 0, 0, 2, 0)}, {pair{0, 2}, row(-1, -1, -1, 2, -1)}, {pair{0, maxRatio}, row(-99, -99, -99, 2, -99)},
		{pair{1, 1}, row(0, 0, 0, -2, 0)}, {pair{1, 2}, row(-1, -1, -1, -4, -1)}, {pair{1, maxRatio}, row(-99, -99, -99, -200, -99)},
	} {
		var edges []api.Edge
		for from, weight := range x.weights {
			edges = append(edges, api.Edge{From: from, To: min(from+1, 4), Weight: weight})
		}
		checkGraph(t, r, x.ask, 5, edges)
	}
}

func TestStatesWithJitter(t *testing.T) {
	state := func(windows, bases, waits pair) api.State {
		return api.State{Flows: [2]api.Control{{Kind: v, Window: windows[0], Base: bases[0]}, {Kind: v, Window: windows[1], Base: bases[1]}}, Waits: waits}
	}
	r := rulesOf(pair{v, v}, 1, 2, 1)
	checkStates(t, r, []api.State{
		state(pair{1, 1}, pair{-1, -1}, pair{0, 0}),
		// What is late in the first round is the least delay of all.
		state(pair{2, 2}, pair{0, 0}, pair{0, 1}), state(pair{2, 2}, pair{0, 1}, pair{0, 1}), state(pair{2, 2}, pair{1, 0}, pair{0, 1}), state(pair{2, 2}, pair{1, 1}, pair{0, 1}),
		// Whoever has a least delay of 1 goes on, and stays at 3.
		state(pair{2, 2}, pair{0, 0}, pair{1, 1}), state(pair{2, 3}, pair{0, 1}, pair{1, 1}), state(pair{3, 2}, pair{1, 0}, pair{1, 1}), state(pair{3, 3}, pair{1, 1}, pair{1, 1}),
	})
	for n, lead := range [][]pair{
		{}, {{0, 0}}, {{0, 1}}, {{1, 0}}, {{1, 1}},
		{{0, 0}, {0, 0}}, {{0, 1}, {0, 0}}, {{1, 0}, {0, 0}}, {{1, 1}, {0, 0}},
	} {
		checkLead(t, r, n, lead)
	}
	for _, ask := range asked() {
		first := pair{1, -ask[1]}[ask[0]]    // only one of the first flow has come
		second := pair{1, -ask[1]}[1-ask[0]] // only one of the second flow has
		edges := []api.Edge{{From: 0, To: 1, Weight: first}, {From: 0, To: 2, Weight: first}, {From: 0, To: 3, Weight: first}, {From: 0, To: 4, Weight: first}}
		for from := 1; from <= 4; from++ {
			edges = append(edges, slices.Repeat([]api.Edge{{From: from, To: from + 4, Weight: second}}, 4)...)
		}
		for from := 5; from <= 8; from++ {
			edges = append(edges, slices.Repeat([]api.Edge{{From: from, To: from, Weight: first}}, 4)...)
		}
		checkGraph(t, r, ask, 9, edges)
	}
}

// Nobody has seen a delay as yet: so the first states behind the start are one for each that may be late.
func TestTheSecondOneChangesFirst(t *testing.T) {
	for _, x := range []struct {
		r     api.Rules
		lates []pair
	}{
		{rulesOf(pair{c, l}, 4, 0, 0), []pair{{0, 0}}},
		{rulesOf(pair{v, l}, 1, 4, 1), []pair{{0, 0}, {0, 1}, {1, 0}, {1, 1}}},
		{rulesOf(pair{v, c}, 1, 4, 2), []pair{{0, 0}, {0, 1}, {0, 2}, {1, 0}, {1, 1}, {1, 2}, {2, 0}, {2, 1}, {2, 2}}},
		{rulesOf(pair{c, v}, 1, 5, 3), []pair{{0, 0}, {0, 1}, {0, 2}, {0, 3}, {1, 0}, {1, 1}, {1, 2}, {1, 3}, {2, 0}, {2, 1}, {2, 2}, {2, 3}, {3, 0}, {3, 1}, {3, 2}, {3, 3}}},
	} {
		states, _ := steady.States(x.r)
		graph, _ := steady.Graph(x.r, 0, 1)
		if len(states) <= len(x.lates) || len(graph.Edges) < len(x.lates) {
			t.Fatalf("States of %v are %v, with %v edges", x.r, len(states), len(graph.Edges))
		}
		for i, late := range x.lates {
			checkLead(t, x.r, i+1, []pair{late})
			s := states[i+1]
			if got := (pair{s.Flows[0].Base, s.Flows[1].Base}); got != late || graph.Edges[i].To != i+1 {
				t.Errorf("of %v, state %v saw delays of %v, not %v, and edge %v is %v", x.r, i+1, got, late, i, graph.Edges[i])
			}
		}
	}
}

// someRules have no more than MaxStates states, one of each pair of kinds and jitter where there are such.
func someRules() []api.Rules {
	out := []api.Rules{
		rulesOf(pair{v, v}, 1, 8, 1), rulesOf(pair{v, v}, 1, 3, 2), rulesOf(pair{v, v}, 1, 5, 3), rulesOf(pair{v, v}, 4, 10, 1),
		rulesOf(pair{v, c}, 1, 4, 1), rulesOf(pair{v, c}, 1, 6, 2), rulesOf(pair{v, c}, 1, 8, 3),
		rulesOf(pair{v, l}, 1, 5, 1), rulesOf(pair{v, l}, 1, 14, 2), rulesOf(pair{v, l}, 1, 5, 3),
		rulesOf(pair{c, v}, 1, 4, 1), rulesOf(pair{c, v}, 2, 16, 2), rulesOf(pair{c, v}, 1, 5, 3), rulesOf(pair{c, v}, 5, 16, 1),
		rulesOf(pair{c, c}, 2, 5, 1), rulesOf(pair{c, c}, 2, 10, 2), rulesOf(pair{c, c}, 1, 10, 3),
		rulesOf(pair{c, l}, 3, 13, 1), rulesOf(pair{c, l}, 1, 13, 2),
		rulesOf(pair{l, v}, 2, 5, 1), rulesOf(pair{l, v}, 1, 3, 2),
		rulesOf(pair{l, c}, 1, 9, 1), rulesOf(pair{l, c}, 1, 4, 2),
		rulesOf(pair{l, l}, 1, 10, 1),
	}
	for _, kinds := range allKinds() {
		out = append(out, rulesOf(kinds, 3, 8, 0), rulesOf(kinds, 1, 0, 0), rulesOf(kinds, fastest, roomiest, 0))
	}
	return out
}

// fullRules have far more states than MaxStates.
func fullRules() []api.Rules {
	var out []api.Rules
	for _, kinds := range allKinds() {
		for jitter := 1; jitter <= latest; jitter++ {
			out = append(out, rulesOf(kinds, 6, roomiest, jitter), rulesOf(kinds, fastest, roomiest-3, jitter))
		}
		out = append(out, rulesOf(kinds, 3, 1, latest), rulesOf(kinds, fastest, 7, latest))
	}
	return out
}

func TestFull(t *testing.T) {
	for _, r := range fullRules() {
		checkNothing(t, r, api.ErrFull)
	}
}

// No rules have just MaxStates states (TestAllRules looks at all that there are): so one fewer and one more are next to the bound.
func TestAtTheBoundOfStates(t *testing.T) {
	for _, r := range []api.Rules{rulesOf(pair{v, v}, 4, 10, 1), rulesOf(pair{c, v}, 2, 16, 2), rulesOf(pair{c, v}, 5, 16, 1)} {
		states, why := steady.States(r)
		if len(states) != api.MaxStates-1 || why != api.OK {
			t.Errorf("States of %v are %v and %v, not one fewer than MaxStates", r, len(states), why)
		}
		for _, ask := range asked() {
			each := (r.Jitter + 1) * (r.Jitter + 1)
			if got, why := steady.Graph(r, ask[0], ask[1]); got.Nodes != len(states) || len(got.Edges) != each*len(states) || why != api.OK {
				t.Errorf("Graph of %v and %v has %v nodes, %v edges and %v", r, ask, got.Nodes, len(got.Edges), why)
			}
		}
	}
	for _, r := range []api.Rules{rulesOf(pair{c, c}, 4, 9, 1), rulesOf(pair{c, c}, 5, 11, 1), rulesOf(pair{c, c}, 5, 12, 1), rulesOf(pair{c, c}, 5, 13, 1)} {
		if got := len(plain(r, 2*api.MaxStates).states); got != api.MaxStates+1 {
			t.Errorf("%v has %v states, not one more than MaxStates", r, got)
		}
		checkNothing(t, r, api.ErrFull)
	}
}

func TestLeadOfNone(t *testing.T) {
	for _, r := range someRules() {
		states, _ := steady.States(r)
		last := len(states) - 1
		checkLead(t, r, 0, nil)
		checkLead(t, r, 1, make([]pair, 1))
		if lead, why := steady.Lead(r, last); len(lead) == 0 || why != api.OK {
			t.Errorf("Lead of %v and %v is %v and %v", r, last, lead, why)
		}
		for _, n := range row(-1, last+1, last+2, -last, api.MaxStates, least, greatest, least+1, greatest-1, 1<<32, 1<<32+1) {
			checkNoLead(t, r, n, api.ErrNone)
		}
	}
}

// answers is what all three tell.
type answers struct {
	states []api.State
	leads  [][]pair
	graphs []api.Graph
}

func ask(r api.Rules) answers {
	var a answers
	a.states, _ = steady.States(r)
	for n := 0; n < len(a.states); n += 1 + len(a.states)/10 {
		lead, _ := steady.Lead(r, n)
		a.leads = append(a.leads, lead)
	}
	for _, ask := range asked() {
		graph, _ := steady.Graph(r, ask[0], ask[1])
		a.graphs = append(a.graphs, graph)
	}
	return a
}

func (a answers) same(other answers) bool {
	return slices.Equal(a.states, other.states) && slices.EqualFunc(a.leads, other.leads, slices.Equal) &&
		slices.EqualFunc(a.graphs, other.graphs, func(g, h api.Graph) bool {
			return g.Nodes == h.Nodes && slices.Equal(g.Edges, h.Edges)
		})
}

// spoil changes all that was answered, and the spare room behind it.
func (a answers) spoil() {
	clear(a.states[:cap(a.states)])
	for _, lead := range a.leads {
		clear(lead[:cap(lead)])
	}
	for _, graph := range a.graphs {
		clear(graph.Edges[:cap(graph.Edges)])
	}
}

func TestTheSameAtEachCall(t *testing.T) {
	full := fullRules()
	for i, r := range someRules() {
		first, second := ask(r), ask(r)
		if !first.same(second) {
			t.Errorf("of %v is told %v, and then %v", r, first, second)
		}
		// Neither what was answered nor what is asked between hangs on anything here.
		first.spoil()
		steady.States(full[i%len(full)])
		steady.States(api.Rules{})
		third := ask(r)
		if first.same(second) || !third.same(second) {
			t.Errorf("of %v is told %v, and behind changes %v", r, second, third)
		}
	}
}

// TestAllEndSoon gives far more time than is needed, but not enough to go through all states of a duel that has too many.
func TestAllEndSoon(t *testing.T) {
	ended := make(chan struct{})
	go func() {
		defer close(ended)
		for _, r := range append(fullRules(), rulesOf(pair{c, v}, 2, 16, 2), rulesOf(pair{c, c}, 4, 9, 1)) {
			steady.States(r)
			steady.Lead(r, greatest)
			steady.Lead(r, api.MaxStates-2)
			steady.Graph(r, 1, maxRatio)
		}
	}()
	select {
	case <-ended:
	case <-time.After(20 * time.Second):
		t.Fatal("not all is told within 20 seconds")
	}
}
