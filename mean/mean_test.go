package mean_test

import (
	"fmt"
	"math"
	"slices"
	"testing"

	"tidewait/api"
	"tidewait/mean"
	"tidewait/potential"
)

const (
	least    = math.MinInt
	greatest = math.MaxInt
	heavy    = 1 << 20
	allNodes = api.MaxNodes
	allEdges = api.MaxEdges
)

func row(l ...int) []int { return l }

func frac(top, bottom int) api.Frac {
	return api.Frac{Num: top, Den: bottom}
}

func edge(from, to, weight int) api.Edge {
	return api.Edge{From: from, To: to, Weight: weight}
}

// graphOf lays marked spare room behind its edges, so that a touch shows.
func graphOf(nodes int, edges ...api.Edge) api.Graph {
	room := slices.Concat(edges, []api.Edge{edge(-7, -7, -7), edge(-8, -8, -8)})
	return api.Graph{Nodes: nodes, Edges: room[:len(edges)]}
}

// path goes on through so many nodes, from first on, by edges that weigh alike.
func path(first, nodes, weight int) []api.Edge {
	var edges []api.Edge
	for node := first; node < first+nodes-1; node++ {
		edges = append(edges, edge(node, node+1, weight))
	}
	return edges
}

// ring goes round through so many nodes, from first on, by edges that weigh unlike and, all together, just this.
func ring(first, nodes, weight int) []api.Edge {
	var edges []api.Edge
	for i := range nodes {
		uneven := i*37%11 - 5
		if i == nodes-1 {
			uneven = 0
		}
		share := (weight*(i+1))/nodes - (weight*i)/nodes
		edges = append(edges, edge(first+i, first+(i+1)%nodes, share+uneven))
		edges[0].Weight -= uneven
	}
	return edges
}

// turned has the same edges, the last one first.
func turned(g api.Graph) api.Graph {
	edges := slices.Clone(g.Edges)
	slices.Reverse(edges)
	return graphOf(g.Nodes, edges...)
}

// renamed has the same nodes, the last one first.
func renamed(g api.Graph) api.Graph {
	edges := slices.Clone(g.Edges)
	for i, e := range edges {
		edges[i] = edge(g.Nodes-1-e.From, g.Nodes-1-e.To, e.Weight)
	}
	return graphOf(g.Nodes, edges...)
}

// inAllOrders are the same graph, with its edges and its nodes in either order.
func inAllOrders(g api.Graph) []api.Graph {
	return []api.Graph{g, turned(g), renamed(g), turned(renamed(g))}
}

// short tells a graph, but not all edges of a great one.
func short(g api.Graph) string {
	if len(g.Edges) > 12 {
		return fmt.Sprintf("{%d, %d edges from %v on}", g.Nodes, len(g.Edges), g.Edges[:3])
	}
	return fmt.Sprint(g)
}

// unchanged calls, and sees that neither the graph's edges nor their spare room are touched.
func unchanged(t *testing.T, g api.Graph, call func()) {
	t.Helper()
	whole := g.Edges[:cap(g.Edges)]
	was := slices.Clone(whole)
	call()
	if !slices.Equal(whole, was) {
		t.Errorf("the edges of %s are changed", short(g))
	}
}

// checkNothing sees that both tell this error, and nothing else.
func checkNothing(t *testing.T, g api.Graph, want api.Errno) {
	t.Helper()
	unchanged(t, g, func() {
		if got, err := mean.Greatest(g); got != (api.Frac{}) || err != want {
			t.Errorf("Greatest of %s is %v %v, not {0 0} %v", short(g), got, err, want)
		}
		if got, err := mean.Best(g); len(got) > 0 || err != want {
			t.Errorf("Best of %s is %v %v, not [] %v", short(g), got, err, want)
		}
	})
}

// checkTold sees that Greatest tells a fraction in lowest terms, Best a cycle that weighs just so by the edge, and both the same each time.
func checkTold(t *testing.T, g api.Graph) (api.Frac, []int) {
	t.Helper()
	var most api.Frac
	var cycle []int
	unchanged(t, g, func() {
		f, why := mean.Greatest(g)
		if again, err := mean.Greatest(g); why != api.OK || again != f || err != why {
			t.Errorf("Greatest of %s is %v %v, and then %v %v", short(g), f, why, again, err)
		}
		if !inLowestTerms(f) {
			t.Errorf("Greatest of %s is %v, which is not in lowest terms", short(g), f)
		}
		l, why := mean.Best(g)
		if again, err := mean.Best(g); why != api.OK || !slices.Equal(again, l) || err != why {
			t.Errorf("Best of %s is %v %v, and then %v %v", short(g), l, why, again, err)
		}
		if !isCycle(g, l) {
			t.Errorf("Best of %s is %v, which is no cycle as it must be", short(g), l)
		}
		if weight, _ := potential.Weigh(g, l); weight*f.Den != f.Num*len(l) {
			t.Errorf("Best of %s weighs %d through %d, and Greatest is %v", short(g), weight, len(l), f)
		}
		most, cycle = f, l
	})
	return most, cycle
}

// check sees that this is what is told, and answers the cycle.
func check(t *testing.T, g api.Graph, want api.Frac) []int {
	t.Helper()
	got, cycle := checkTold(t, g)
	if got != want {
		t.Errorf("Greatest of %s is %v, not %v", short(g), got, want)
	}
	return cycle
}

func checkInAllOrders(t *testing.T, g api.Graph, want api.Frac) {
	t.Helper()
	for _, same := range inAllOrders(g) {
		check(t, same, want)
	}
}

func inLowestTerms(f api.Frac) bool {
	if f.Den < 1 {
		return false
	}
	for common := 2; common <= f.Den; common++ {
		if f.Num%common == 0 && f.Den%common == 0 {
			return false
		}
	}
	return true
}

// isCycle is whether these edges are a cycle with no more edges than there are nodes.
func isCycle(g api.Graph, cycle []int) bool {
	if len(cycle) < 1 || len(cycle) > g.Nodes {
		return false
	}
	if _, why := potential.Weigh(g, cycle); why != api.OK {
		return false
	}
	return g.Edges[cycle[0]].From == g.Edges[cycle[len(cycle)-1]].To
}

// wrongGraphs have one fault each, and other edges that go round.
func wrongGraphs() []api.Graph {
	loop := edge(0, 0, 1)
	out := []api.Graph{
		graphOf(-1), graphOf(-1, loop), graphOf(least), graphOf(least, loop),
		graphOf(allNodes + 1), graphOf(allNodes+1, loop), graphOf(greatest), graphOf(greatest, loop),
		graphOf(1, slices.Repeat([]api.Edge{loop}, allEdges+1)...), graphOf(allNodes, slices.Repeat([]api.Edge{loop}, allEdges+1)...),
		graphOf(0, loop), graphOf(0, edge(-1, -1, 0)),
	}
	for _, nodes := range row(1, 4, allNodes) {
		for _, e := range wrongEdges(nodes) {
			out = append(out,
				graphOf(nodes, e),
				graphOf(nodes, e, loop, loop),
				graphOf(nodes, loop, e, loop),
				graphOf(nodes, loop, loop, e),
				graphOf(nodes, append(slices.Repeat([]api.Edge{loop}, allEdges-1), e)...))
		}
	}
	return out
}

// wrongEdges have one fault each, where there are so many nodes.
func wrongEdges(nodes int) []api.Edge {
	var out []api.Edge
	for _, wrong := range row(-1, nodes, allNodes, least, greatest) {
		out = append(out, edge(wrong, 0, 1), edge(0, wrong, 1), edge(nodes-1, wrong, 1), edge(wrong, wrong, 1))
	}
	for _, wrong := range row(-heavy-1, heavy+1, least, greatest) {
		out = append(out, edge(0, 0, wrong), edge(0, nodes-1, wrong))
	}
	return out
}

func TestNothingIsToldOfWrongGraphs(t *testing.T) {
	for _, g := range wrongGraphs() {
		if potential.Wrong(g) != api.ErrRange {
			t.Fatalf("%s is not wrong", short(g))
		}
		checkNothing(t, g, api.ErrRange)
	}
}

func TestNoEdges(t *testing.T) {
	for _, nodes := range row(0, 1, 2, 7, allNodes) {
		checkNothing(t, graphOf(nodes), api.ErrNone)
		checkNothing(t, api.Graph{Nodes: nodes}, api.ErrNone)
		checkNothing(t, api.Graph{Nodes: nodes, Edges: []api.Edge{}}, api.ErrNone)
	}
}

// onward has as many edges as there may be, each to one of the next nodes.
func onward(weight func(number int) int) api.Graph {
	var edges []api.Edge
	for far := 1; len(edges) < allEdges; far++ {
		for node := 0; node+far < allNodes && len(edges) < allEdges; node++ {
			edges = append(edges, edge(node, node+far, weight(len(edges))))
		}
	}
	return graphOf(allNodes, edges...)
}

func TestNoCycle(t *testing.T) {
	for _, g := range []api.Graph{
		graphOf(2, edge(0, 1, 5)),
		graphOf(2, edge(0, 1, 5), edge(0, 1, 7), edge(0, 1, -7)),
		graphOf(4, edge(3, 2, -7), edge(2, 1, 4)),
		graphOf(4, edge(0, 1, 1), edge(0, 2, 1), edge(1, 3, 1), edge(2, 3, 1), edge(0, 3, 9)),
		graphOf(6, edge(0, 1, 1), edge(1, 2, 1), edge(3, 4, 1), edge(4, 5, 1), edge(3, 5, heavy)),
		graphOf(allNodes, path(0, allNodes, heavy)...),
		graphOf(allNodes, path(0, allNodes, 0)...),
		graphOf(allNodes, path(0, allNodes, -heavy)...),
		onward(func(int) int { return heavy }),
		onward(func(int) int { return -heavy }),
		onward(func(number int) int { return number*7919%2003 - 1001 }),
	} {
		for _, g := range inAllOrders(g) {
			checkNothing(t, g, api.ErrNone)
		}
	}
}

func TestOneEdgeFromANodeToItself(t *testing.T) {
	for _, weight := range row(0, 1, -1, heavy, -heavy) {
		for _, nodes := range row(1, 2, 3, allNodes) {
			for _, node := range row(0, nodes/2, nodes-1) {
				if got := check(t, graphOf(nodes, edge(node, node, weight)), frac(weight, 1)); !slices.Equal(got, row(0)) {
					t.Errorf("the only cycle is %v, not [0]", got)
				}
			}
		}
	}
}

func TestEdgesBetweenTheSameNodes(t *testing.T) {
	for _, c := range []struct {
		g    api.Graph
		want api.Frac
		best []int
	}{
		{graphOf(1, edge(0, 0, 3), edge(0, 0, 5)), frac(5, 1), row(1)},
		{graphOf(1, edge(0, 0, 5), edge(0, 0, 3)), frac(5, 1), row(0)},
		{graphOf(1, edge(0, 0, -5), edge(0, 0, -3), edge(0, 0, -4)), frac(-3, 1), row(1)},
		{graphOf(1, edge(0, 0, -heavy), edge(0, 0, heavy)), frac(heavy, 1), row(1)},
		{graphOf(2, edge(0, 1, 3), edge(0, 1, 6), edge(1, 0, 1)), frac(7, 2), row(1, 2)},
		{graphOf(2, edge(0, 1, 6), edge(1, 0, 1), edge(0, 1, 3)), frac(7, 2), row(0, 1)},
		{graphOf(2, edge(0, 1, -6), edge(1, 0, -1), edge(0, 1, -3), edge(1, 0, -2)), frac(-2, 1), row(1, 2)},
		{graphOf(2, edge(0, 1, heavy), edge(0, 1, -heavy), edge(1, 0, -heavy)), frac(0, 1), row(0, 2)},
		{graphOf(3, edge(0, 1, 1), edge(1, 2, 1), edge(2, 0, 1), edge(1, 2, 2), edge(1, 2, 0)), frac(4, 3), row(0, 2, 3)},
	} {
		got := check(t, c.g, c.want)
		slices.Sort(got)
		if !slices.Equal(got, c.best) {
			t.Errorf("Best of %s has the edges %v, not %v", short(c.g), got, c.best)
		}
		checkInAllOrders(t, c.g, c.want)
	}
}

func TestOneCycle(t *testing.T) {
	for _, c := range []struct {
		edges, weight int
		want          api.Frac
	}{
		{2, 0, frac(0, 1)}, {2, 2, frac(1, 1)}, {2, 8, frac(4, 1)}, {2, 1, frac(1, 2)}, {2, 7, frac(7, 2)},
		{3, 0, frac(0, 1)}, {3, 3, frac(1, 1)}, {3, 12, frac(4, 1)}, {3, 1, frac(1, 3)}, {3, 2, frac(2, 3)}, {3, 10, frac(10, 3)},
		{10, 0, frac(0, 1)}, {10, 10, frac(1, 1)}, {10, 70, frac(7, 1)}, {10, 5, frac(1, 2)}, {10, 35, frac(7, 2)},
		{10, 2, frac(1, 5)}, {10, 4, frac(2, 5)}, {10, 8, frac(4, 5)}, {10, 1, frac(1, 10)}, {10, 9, frac(9, 10)}, {10, 21, frac(21, 10)},
		{6, 2, frac(1, 3)}, {6, 3, frac(1, 2)}, {6, 4, frac(2, 3)}, {9, 3, frac(1, 3)}, {9, 24, frac(8, 3)},
		{allNodes, 0, frac(0, 1)}, {allNodes, allNodes, frac(1, 1)}, {allNodes, 7 * allNodes, frac(7, 1)},
		{allNodes, allNodes / 2, frac(1, 2)}, {allNodes, allNodes / 2 * 9, frac(9, 2)},
		{allNodes, allNodes / 3, frac(1, 3)}, {allNodes, allNodes / 3 * 2, frac(2, 3)}, {allNodes, allNodes / 3 * 7, frac(7, 3)},
		{allNodes, 1, frac(1, allNodes)}, {allNodes, allNodes - 1, frac(allNodes-1, allNodes)}, {allNodes, allNodes + 1, frac(allNodes+1, allNodes)},
		{allNodes, allNodes*1000000 + 7, frac(allNodes*1000000+7, allNodes)},
	} {
		for _, sign := range row(1, -1) {
			g := graphOf(c.edges, ring(0, c.edges, sign*c.weight)...)
			want := frac(sign*c.want.Num, c.want.Den)
			for _, g := range inAllOrders(g) {
				if got := check(t, g, want); len(got) != c.edges {
					t.Errorf("the only cycle of %s is told by %d edges, not %d", short(g), len(got), c.edges)
				}
			}
		}
	}
}
