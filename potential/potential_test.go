package potential_test

import (
	"fmt"
	"math"
	"slices"
	"testing"

	"tidewait/api"
	"tidewait/potential"
)

const (
	least    = math.MinInt
	greatest = math.MaxInt
	heavy    = 1 << 20
	allNodes = api.MaxNodes
	allEdges = api.MaxEdges
)

func row(l ...int) []int { return l }

func edge(from, to, weight int) api.Edge {
	return api.Edge{From: from, To: to, Weight: weight}
}

// graphOf lays marked spare room behind its edges, so that a touch shows.
func graphOf(nodes int, edges ...api.Edge) api.Graph {
	room := slices.Concat(edges, []api.Edge{edge(-7, -7, -7), edge(-8, -8, -8)})
	return api.Graph{Nodes: nodes, Edges: room[:len(edges)]}
}

// ring goes through so many nodes, from 0 on, by edges of 0 but for the last one, that closes it.
func ring(nodes, weight int) api.Graph {
	var edges []api.Edge
	for node := range nodes {
		edges = append(edges, edge(node, (node+1)%nodes, 0))
	}
	edges[nodes-1].Weight = weight
	return graphOf(nodes, edges...)
}

// path goes through so many nodes, from 0 on, by edges that weigh alike.
func path(nodes, weight int) api.Graph {
	var edges []api.Edge
	for node := range nodes - 1 {
		edges = append(edges, edge(node, node+1, weight))
	}
	return graphOf(nodes, edges...)
}

// turned has the same edges, the last one first.
func turned(g api.Graph) api.Graph {
	edges := slices.Clone(g.Edges)
	slices.Reverse(edges)
	return graphOf(g.Nodes, edges...)
}

// with has more edges behind those that there are.
func with(g api.Graph, edges ...api.Edge) api.Graph {
	return graphOf(g.Nodes, slices.Concat(g.Edges, edges)...)
}

// short tells a graph, but not all edges of a great one.
func short(g api.Graph) string {
	if len(g.Edges) > 12 {
		return fmt.Sprintf("{%d, %d edges from %v on}", g.Nodes, len(g.Edges), g.Edges[:3])
	}
	return fmt.Sprint(g)
}

// unchanged calls, and sees that neither the graph's edges nor their spare room are touched.
func unchanged(t *testing.T, g api.Graph, call func()) {
	t.Helper()
	whole := g.Edges[:cap(g.Edges)]
	was := slices.Clone(whole)
	call()
	if !slices.Equal(whole, was) {
		t.Errorf("the edges of %s are changed", short(g))
	}
}

func checkWrong(t *testing.T, g api.Graph, want api.Errno) {
	t.Helper()
	unchanged(t, g, func() {
		if got := potential.Wrong(g); got != want {
			t.Errorf("Wrong of %s is %v, not %v", short(g), got, want)
		}
	})
}

func checkWeigh(t *testing.T, g api.Graph, walk []int, want int, why api.Errno) {
	t.Helper()
	whole := walk[:cap(walk)]
	was := slices.Clone(whole)
	unchanged(t, g, func() {
		if got, err := potential.Weigh(g, walk); got != want || err != why {
			t.Errorf("Weigh of %s and %v is %v %v, not %v %v", short(g), walk, got, err, want, why)
		}
	})
	if !slices.Equal(whole, was) {
		t.Errorf("Weigh changes the walk %v to %v", was, whole)
	}
}

// checkMost sees that Most answers this, and Cycle that there is none.
func checkMost(t *testing.T, g api.Graph, want []int) {
	t.Helper()
	unchanged(t, g, func() {
		if got, err := potential.Most(g); !slices.Equal(got, want) || err != api.OK {
			t.Errorf("Most of %s is %v %v, not %v OK", short(g), got, err, want)
		}
		if got, err := potential.Cycle(g); len(got) > 0 || err != api.ErrNone {
			t.Errorf("Cycle of %s is %v %v, not ErrNone", short(g), got, err)
		}
	})
}

// checkCycle sees that Most answers that there is none, and Cycle a cycle as it must be, twice the same.
func checkCycle(t *testing.T, g api.Graph) []int {
	t.Helper()
	var cycle []int
	unchanged(t, g, func() {
		if got, err := potential.Most(g); len(got) > 0 || err != api.ErrNone {
			t.Errorf("Most of %s is %v %v, not ErrNone", short(g), got, err)
		}
		found, err := potential.Cycle(g)
		again, _ := potential.Cycle(g)
		if err != api.OK || !gains(g, found) {
			t.Errorf("Cycle of %s is %v %v, which is no cycle as it must be", short(g), found, err)
		}
		if !slices.Equal(found, again) {
			t.Errorf("Cycle of %s is %v, and then %v", short(g), found, again)
		}
		cycle = found
	})
	return cycle
}

// gains is whether these edges are a cycle that weighs more than 0 and has no more edges than there are nodes.
func gains(g api.Graph, cycle []int) bool {
	if len(cycle) < 1 || len(cycle) > g.Nodes {
		return false
	}
	sum := 0
	ahead := cycle[len(cycle)-1]
	for _, number := range cycle {
		if number < 0 || number >= len(g.Edges) || ahead < 0 || ahead >= len(g.Edges) {
			return false
		}
		if g.Edges[ahead].To != g.Edges[number].From {
			return false
		}
		sum += g.Edges[number].Weight
		ahead = number
	}
	weight, why := potential.Weigh(g, cycle)
	return why == api.OK && weight == sum && weight > 0
}

func checkNothing(t *testing.T, g api.Graph, want api.Errno) {
	t.Helper()
	unchanged(t, g, func() {
		for _, walk := range [][]int{nil, row(0), row(-1), row(0, 0), row(least), row(greatest)} {
			checkWeigh(t, g, walk, 0, want)
		}
		if got, err := potential.Most(g); len(got) > 0 || err != want {
			t.Errorf("Most of %s is %v %v, not %v", short(g), got, err, want)
		}
		if got, err := potential.Cycle(g); len(got) > 0 || err != want {
			t.Errorf("Cycle of %s is %v %v, not %v", short(g), got, err, want)
		}
	})
}

// many is so many edges, all alike.
func many(count int, e api.Edge) []api.Edge {
	return slices.Repeat([]api.Edge{e}, count)
}

// wrongGraphs have one fault each, and other edges that would gain for ever.
func wrongGraphs() []api.Graph {
	gain := edge(0, 0, 1)
	out := []api.Graph{
		graphOf(-1), graphOf(-1, gain), graphOf(least), graphOf(least, gain),
		graphOf(allNodes + 1), graphOf(allNodes+1, gain), graphOf(greatest), graphOf(greatest, gain),
		graphOf(1, many(allEdges+1, gain)...), graphOf(allNodes, many(allEdges+1, gain)...), graphOf(2, many(3*allEdges, gain)...),
		graphOf(0, gain), graphOf(0, edge(0, 0, 0)), graphOf(0, edge(-1, -1, 0)),
	}
	for _, nodes := range row(1, 4, allNodes) {
		for _, e := range wrongEdges(nodes) {
			out = append(out,
				graphOf(nodes, e),
				graphOf(nodes, e, gain, gain),
				graphOf(nodes, gain, e, gain),
				graphOf(nodes, gain, gain, e),
				graphOf(nodes, append(many(allEdges-1, gain), e)...))
		}
	}
	return out
}

// wrongEdges have one fault each, where there are so many nodes.
func wrongEdges(nodes int) []api.Edge {
	var out []api.Edge
	for _, wrong := range row(-1, nodes, nodes+1, allNodes, least, greatest) {
		out = append(out, edge(wrong, 0, 1), edge(0, wrong, 1), edge(wrong, nodes-1, 1), edge(nodes-1, wrong, 1), edge(wrong, wrong, 1))
	}
	for _, wrong := range row(-heavy-1, heavy+1, least, greatest) {
		out = append(out, edge(0, 0, wrong), edge(0, nodes-1, wrong))
	}
	return out
}

func TestWrongTellsWrongGraphs(t *testing.T) {
	for _, g := range wrongGraphs() {
		checkWrong(t, g, api.ErrRange)
	}
}

func TestWrongLetsEdgesOfItsBoundsBe(t *testing.T) {
	for _, nodes := range row(0, 1, 2, allNodes-1, allNodes) {
		checkWrong(t, api.Graph{Nodes: nodes}, api.OK)
		checkWrong(t, api.Graph{Nodes: nodes, Edges: []api.Edge{}}, api.OK)
	}
	for _, nodes := range row(1, 2, allNodes-1, allNodes) {
		for _, from := range row(0, nodes/2, nodes-1) {
			for _, to := range row(0, nodes/2, nodes-1) {
				for _, weight := range row(-heavy, -1, 0, 1, heavy) {
					checkWrong(t, graphOf(nodes, edge(from, to, weight)), api.OK)
				}
			}
		}
		checkWrong(t, graphOf(nodes, many(allEdges-1, edge(0, nodes-1, heavy))...), api.OK)
		checkWrong(t, graphOf(nodes, many(allEdges, edge(nodes-1, 0, -heavy))...), api.OK)
	}
}

func TestNothingIsToldOfWrongGraphs(t *testing.T) {
	for _, g := range wrongGraphs() {
		checkNothing(t, g, api.ErrRange)
	}
}

// roads has ways to go on, back and round: 0 to 1 to 2 to 0, 1 to 1, and 2 to 3.
func roads() api.Graph {
	return graphOf(4, edge(0, 1, 5), edge(1, 2, -2), edge(2, 0, -4), edge(1, 1, 7), edge(2, 3, heavy))
}

func TestWeighAddsUpWalks(t *testing.T) {
	g := roads()
	for _, c := range []struct {
		walk []int
		want int
	}{
		{nil, 0}, {row(), 0},
		{row(0), 5}, {row(1), -2}, {row(2), -4}, {row(3), 7}, {row(4), heavy},
		{row(0, 1), 3}, {row(1, 2), -6}, {row(2, 0), 1}, {row(0, 3), 12}, {row(3, 3), 14}, {row(3, 1), 5},
		{row(0, 1, 2), -1}, {row(0, 1, 2, 0, 1, 2), -2}, {row(0, 3, 3, 3, 1, 4), 5 + 21 - 2 + heavy},
		{slices.Repeat(row(1, 2, 0), 100), -100}, {slices.Repeat(row(3), 1000), 7000},
		{slices.Repeat(row(0, 3, 1, 2), 700), 4200},
	} {
		checkWeigh(t, g, c.walk, c.want, api.OK)
	}
	checkWeigh(t, api.Graph{}, nil, 0, api.OK)
	checkWeigh(t, api.Graph{Nodes: 3}, row(), 0, api.OK)
}

func TestWeighTellsWhatIsNoWalk(t *testing.T) {
	g := roads()
	for _, walk := range [][]int{
		row(0, 0), row(1, 1), row(4, 4),
		row(1, 0), row(2, 1), row(3, 2), row(4, 0), row(3, 0),
		row(0, 2, 0, 1), row(0, 1, 1, 2), row(0, 1, 2, 1), row(0, 1, 4, 4), row(4, 0, 1, 2),
		row(1, 2, 0, 3, 3, 0),
		append(slices.Repeat(row(0, 1, 2), 100), 1), append(row(2, 1), slices.Repeat(row(2, 0, 1), 100)...),
	} {
		checkWeigh(t, g, walk, 0, api.ErrForm)
	}
	for _, wrong := range row(-1, len(g.Edges), len(g.Edges)+1, len(g.Edges)+2, least, greatest) {
		for _, walk := range [][]int{row(wrong), row(wrong, wrong), row(wrong, 0, 1), row(0, wrong, 1), row(0, 1, wrong)} {
			checkWeigh(t, g, walk, 0, api.ErrForm)
			checkWeigh(t, api.Graph{}, walk, 0, api.ErrForm)
			checkWeigh(t, api.Graph{Nodes: 9}, walk, 0, api.ErrForm)
		}
	}
	checkWeigh(t, api.Graph{}, row(0), 0, api.ErrForm)
	// These would weigh 0, or nearly nothing, if they were walks.
	zeros := graphOf(3, edge(0, 1, 0), edge(1, 2, 4), edge(1, 2, -4), edge(2, 1, 0))
	for _, walk := range [][]int{row(0, 0), row(1, 2), row(0, 3), row(2, 1)} {
		checkWeigh(t, zeros, walk, 0, api.ErrForm)
	}
}

func TestWeighOfHeavyWalks(t *testing.T) {
	const long = 1 << 20
	g := graphOf(2, edge(0, 0, heavy), edge(1, 1, -heavy), edge(0, 1, -heavy), edge(1, 0, heavy))
	checkWeigh(t, g, slices.Repeat(row(0), long), long*heavy, api.OK)
	checkWeigh(t, g, slices.Repeat(row(1), long), -long*heavy, api.OK)
	checkWeigh(t, g, slices.Repeat(row(2, 3), long), 0, api.OK)
	checkWeigh(t, g, append(slices.Repeat(row(0), long), 1), 0, api.ErrForm)
	checkWeigh(t, g, append(slices.Repeat(row(1), long), 4), 0, api.ErrForm)
}

// allWalks gives the number of a walk's edges to see, for each walk of so many edges at most.
func allWalks(g api.Graph, longest int, see func(walk []int)) {
	var goOn func(walk []int)
	goOn = func(walk []int) {
		see(walk)
		if len(walk) == longest {
			return
		}
		for number, e := range g.Edges {
			if len(walk) == 0 || g.Edges[walk[len(walk)-1]].To == e.From {
				goOn(append(walk, number))
			}
		}
	}
	goOn(make([]int, 0, longest))
}

func TestWeighOfEveryShortRowOfNumbers(t *testing.T) {
	g := roads()
	walks := map[[4]int]int{}
	allWalks(g, 4, func(walk []int) {
		key := [4]int{-1, -1, -1, -1}
		sum := 0
		for i, number := range walk {
			key[i] = number
			sum += g.Edges[number].Weight
		}
		walks[key] = sum
	})
	numbers := len(g.Edges) + 2
	for code := range numbers * numbers * numbers * numbers {
		var walk []int
		key := [4]int{-1, -1, -1, -1}
		for i, rest := 0, code; i < 4 && rest > 0; i, rest = i+1, rest/numbers {
			key[i] = rest%numbers - 1
			walk = append(walk, key[i])
		}
		if sum, is := walks[key]; is && !slices.Contains(walk, -1) {
			checkWeigh(t, g, walk, sum, api.OK)
		} else {
			checkWeigh(t, g, walk, 0, api.ErrForm)
		}
	}
}
