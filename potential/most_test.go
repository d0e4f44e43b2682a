package potential_test

import (
	"slices"
	"testing"

	"tidewait/api"
	"tidewait/potential"
)

func TestMostWithoutGain(t *testing.T) {
	for _, nodes := range row(0, 1, 2, 7, allNodes) {
		checkMost(t, graphOf(nodes), make([]int, nodes))
		checkMost(t, api.Graph{Nodes: nodes}, make([]int, nodes))
	}
	for _, g := range []api.Graph{
		graphOf(1, edge(0, 0, -1)),
		graphOf(2, edge(0, 1, -1), edge(1, 0, -1)),
		graphOf(3, edge(0, 1, -heavy), edge(1, 2, -3), edge(2, 0, -1), edge(2, 2, -2)),
		path(allNodes, -1), ring(9, -1), path(allNodes, 0), ring(9, 0),
	} {
		checkMost(t, g, make([]int, g.Nodes))
		checkMost(t, turned(g), make([]int, g.Nodes))
	}
}

func TestMostOfWalks(t *testing.T) {
	for _, c := range []struct {
		g    api.Graph
		want []int
	}{
		{graphOf(3, edge(0, 1, 5), edge(1, 2, -2), edge(2, 0, -3)), row(0, 5, 3)},
		{graphOf(3, edge(0, 1, 5), edge(1, 2, -2), edge(2, 0, -4)), row(0, 5, 3)},
		{graphOf(3, edge(0, 1, 5), edge(1, 2, -9), edge(2, 0, 4)), row(4, 9, 0)},
		{graphOf(4, edge(3, 2, -7), edge(2, 1, 4)), row(0, 4, 0, 0)},
		{graphOf(2, edge(0, 1, 3), edge(0, 1, 8)), row(0, 8)},
		{graphOf(2, edge(0, 1, 8), edge(0, 1, 3)), row(0, 8)},
		{graphOf(2, edge(0, 1, 8), edge(0, 1, -3), edge(0, 1, 8)), row(0, 8)},
		{graphOf(2, edge(0, 1, 8), edge(1, 0, -8)), row(0, 8)},
		{graphOf(2, edge(0, 1, -8), edge(1, 0, 8)), row(8, 0)},
		{graphOf(1, edge(0, 0, 0)), row(0)},
		{graphOf(1, edge(0, 0, -1)), row(0)},
		{graphOf(2, edge(0, 0, 0), edge(0, 1, 4), edge(1, 1, -1)), row(0, 4)},
		{graphOf(4, edge(0, 1, 1), edge(1, 3, 1), edge(0, 2, 9), edge(2, 3, -8)), row(0, 1, 9, 2)},
		{graphOf(4, edge(0, 1, 1), edge(1, 3, 1), edge(0, 2, 9), edge(2, 3, -7)), row(0, 1, 9, 2)},
		{graphOf(4, edge(0, 1, 1), edge(1, 3, 1), edge(0, 2, 9), edge(2, 3, -6)), row(0, 1, 9, 3)},
		{graphOf(3, edge(0, 1, heavy), edge(1, 0, -heavy), edge(1, 2, heavy)), row(0, heavy, 2*heavy)},
		{graphOf(4, edge(0, 1, heavy), edge(1, 2, heavy), edge(2, 3, -heavy), edge(3, 0, -heavy)), row(0, heavy, 2*heavy, heavy)},
	} {
		checkMost(t, c.g, c.want)
		checkMost(t, turned(c.g), c.want)
	}
}

func TestEdgesFromANodeToItself(t *testing.T) {
	for _, nodes := range row(1, 2, allNodes) {
		for _, node := range row(0, nodes/2, nodes-1) {
			checkMost(t, graphOf(nodes, edge(node, node, -1)), make([]int, nodes))
			checkMost(t, graphOf(nodes, edge(node, node, 0)), make([]int, nodes))
			for _, weight := range row(1, heavy) {
				if got := checkCycle(t, graphOf(nodes, edge(node, node, -1), edge(node, node, 0), edge(node, node, weight))); !slices.Equal(got, row(2)) {
					t.Errorf("the only cycle from a node to itself that gains is %v, not [2]", got)
				}
			}
		}
	}
}

func TestCyclesRoundNothing(t *testing.T) {
	for _, nodes := range row(1, 2, 3, 10, allNodes-1, allNodes) {
		for _, gain := range row(-1, 0, 1) {
			g := ring(nodes, gain)
			for _, g := range []api.Graph{g, turned(g)} {
				if gain > 0 {
					if got := checkCycle(t, g); len(got) != nodes {
						t.Errorf("the ring of %d nodes is told by %d edges", nodes, len(got))
					}
					continue
				}
				checkMost(t, g, make([]int, nodes))
			}
		}
	}
	for _, gain := range row(-1, 0, 1) {
		g := graphOf(4, edge(0, 1, heavy), edge(1, 2, -heavy), edge(2, 3, heavy-1), edge(3, 0, -heavy+1+gain))
		for _, g := range []api.Graph{g, turned(g)} {
			if gain > 0 {
				checkCycle(t, g)
				continue
			}
			checkMost(t, g, row(0, heavy, 0, heavy-1))
		}
	}
}

func TestGainThatOthersDoNotComeTo(t *testing.T) {
	for _, g := range []api.Graph{
		graphOf(3, edge(0, 1, 2), edge(1, 0, -1)),
		graphOf(3, edge(1, 2, 2), edge(2, 1, -1)),
		graphOf(6, edge(0, 1, 2), edge(1, 0, -1), edge(2, 0, 5), edge(3, 2, 5), edge(5, 4, 5)),
		graphOf(6, edge(2, 3, -5), edge(3, 2, 5), edge(5, 5, 1), edge(0, 1, heavy)),
		graphOf(allNodes, edge(allNodes-1, allNodes-1, 1)),
		graphOf(allNodes, edge(7, 3, -4), edge(3, 7, 5)),
		graphOf(allNodes, append(path(allNodes-1, heavy).Edges, edge(allNodes-1, allNodes-1, 1))...),
	} {
		checkCycle(t, g)
		checkCycle(t, turned(g))
	}
}

func TestGainOfHeavyEdges(t *testing.T) {
	for _, g := range []api.Graph{
		graphOf(3, edge(0, 1, heavy), edge(1, 2, heavy), edge(2, 0, -heavy)),
		graphOf(2, edge(0, 1, heavy), edge(1, 0, heavy)),
		graphOf(2, edge(0, 1, heavy), edge(1, 0, -heavy+1)),
		graphOf(1, many(allEdges, edge(0, 0, heavy))...),
		ring(allNodes, heavy),
	} {
		checkCycle(t, g)
		checkCycle(t, turned(g))
	}
}

func TestGainBehindHeavyEdges(t *testing.T) {
	for _, g := range []api.Graph{
		graphOf(2, edge(0, 1, -heavy), edge(1, 1, 1)),
		graphOf(4, edge(0, 1, -heavy), edge(1, 2, -heavy), edge(2, 3, 4), edge(3, 2, -3)),
		with(path(allNodes, -heavy), edge(allNodes-1, allNodes-1, 1)),
		with(path(allNodes, -heavy), edge(allNodes-1, allNodes-2, heavy), edge(allNodes-2, allNodes-1, -heavy+1)),
		graphOf(5, edge(0, 1, heavy), edge(1, 2, heavy), edge(2, 3, -heavy), edge(3, 4, 1), edge(4, 3, 0)),
	} {
		checkCycle(t, g)
		checkCycle(t, turned(g))
	}
}

func TestGainBesideRoundsOfNothing(t *testing.T) {
	for _, g := range []api.Graph{
		graphOf(3, edge(0, 1, 3), edge(1, 0, -3), edge(1, 2, 2), edge(2, 1, -1)),
		graphOf(3, edge(0, 0, 0), edge(1, 1, 0), edge(0, 1, 3), edge(1, 0, -2), edge(2, 2, 0)),
		graphOf(4, edge(0, 1, 5), edge(1, 2, 5), edge(2, 0, -10), edge(2, 3, -heavy), edge(3, 2, heavy), edge(3, 3, 1)),
		graphOf(2, edge(0, 1, 9), edge(1, 0, -9), edge(1, 0, -8)),
		with(ring(allNodes, 0), edge(allNodes/2, 1, -3), edge(1, allNodes/2, 4)),
		with(ring(allNodes, 0), edge(allNodes-1, 0, 1)),
	} {
		checkCycle(t, g)
		checkCycle(t, turned(g))
	}
}

func TestLongestPaths(t *testing.T) {
	for _, weight := range row(1, 5, heavy) {
		g := path(allNodes, weight)
		want := make([]int, allNodes)
		for node := range want {
			want[node] = node * weight
		}
		checkMost(t, g, want)
		checkMost(t, turned(g), want)
		back := (allNodes - 1) * weight
		if back <= heavy {
			checkMost(t, with(g, edge(allNodes-1, 0, -back)), want)
			checkMost(t, turned(with(g, edge(allNodes-1, 0, -back))), want)
			checkCycle(t, with(g, edge(allNodes-1, 0, 1-back)))
			checkCycle(t, turned(with(g, edge(allNodes-1, 0, 1-back))))
		}
		checkCycle(t, with(g, edge(allNodes-1, allNodes-1, 1)))
	}
}

// dense has as many edges as there may be: each node to the next 16 ones, by what a hill's height falls or rises.
func dense(height func(node int) int) api.Graph {
	var edges []api.Edge
	for node := range allNodes {
		for far := 1; far <= allEdges/allNodes; far++ {
			to := (node + far) % allNodes
			edges = append(edges, edge(node, to, height(to)-height(node)))
		}
	}
	return graphOf(allNodes, edges...)
}

func TestMostWhereThereAreAllEdges(t *testing.T) {
	height := func(node int) int { return node * 7919 % 10007 }
	g := dense(height)
	want := make([]int, allNodes)
	for node := range want {
		want[node] = height(node)
	}
	// Each walk weighs by how much its end is above its beginning, and node 0 is the lowest.
	checkMost(t, g, want)
	checkMost(t, turned(g), want)
	for _, at := range row(0, allEdges/2, allEdges-1) {
		g := dense(height)
		g.Edges[at].Weight++
		checkCycle(t, g)
		checkCycle(t, turned(g))
	}
	for i := range g.Edges {
		g.Edges[i].Weight = heavy
	}
	checkCycle(t, g)
}

// checkByWalks holds what is told against all walks of as many edges as there are nodes at most: a cycle that gains has one within it that comes to no node twice, and has no more edges than that.
func checkByWalks(t *testing.T, g api.Graph) {
	t.Helper()
	most := make([]int, g.Nodes)
	gain := false
	allWalks(g, g.Nodes, func(walk []int) {
		if len(walk) == 0 {
			return
		}
		sum := 0
		for _, number := range walk {
			sum += g.Edges[number].Weight
		}
		end := g.Edges[walk[len(walk)-1]].To
		most[end] = max(most[end], sum)
		gain = gain || sum > 0 && g.Edges[walk[0]].From == end
	})
	if gain {
		checkCycle(t, g)
		return
	}
	checkMost(t, g, most)
}

// allGraphs gives each graph with so many nodes and edges, in each order of the edges, that weigh one of these.
func allGraphs(nodes, edges int, weights []int, see func(g api.Graph)) {
	g := graphOf(nodes, make([]api.Edge, edges)...)
	var fill func(at int)
	fill = func(at int) {
		if at == edges {
			see(g)
			return
		}
		for from := range nodes {
			for to := range nodes {
				for _, weight := range weights {
					g.Edges[at] = edge(from, to, weight)
					fill(at + 1)
				}
			}
		}
	}
	fill(0)
}

func TestAllSmallGraphsByWalks(t *testing.T) {
	for _, c := range []struct {
		nodes, edges int
		weights      []int
	}{
		{0, 0, nil}, {1, 0, nil}, {4, 0, nil},
		{1, 1, row(-2, -1, 0, 1, 2)}, {1, 2, row(-2, -1, 0, 1, 2)}, {1, 3, row(-2, -1, 0, 1, 2)},
		{2, 1, row(-3, -1, 0, 1, 3)}, {2, 2, row(-3, -1, 0, 1, 3)}, {2, 3, row(-3, -1, 0, 1, 3)}, {2, 4, row(-1, 0, 1)},
		{3, 1, row(-2, -1, 0, 1, 2)}, {3, 2, row(-2, -1, 0, 1, 2)}, {3, 3, row(-1, 0, 1)}, {3, 4, row(-1, 0, 1)},
		{4, 3, row(-1, 2)},
	} {
		allGraphs(c.nodes, c.edges, c.weights, func(g api.Graph) { checkByWalks(t, g) })
	}
}

// drawn gives numbers that look drawn, always the same ones.
func drawn(seed uint64) func(below int) int {
	return func(below int) int {
		seed = seed*6364136223846793005 + 1442695040888963407
		return int(seed>>33) % below
	}
}

func TestManyDrawnGraphsByWalks(t *testing.T) {
	draw := drawn(17)
	for range 20000 {
		nodes := 1 + draw(6)
		spread := row(1, 3, 10, heavy)[draw(4)]
		lower := draw(spread + 1)
		edges := make([]api.Edge, draw(9))
		for i := range edges {
			edges[i] = edge(draw(nodes), draw(nodes), draw(2*spread+1-lower)-spread)
		}
		checkByWalks(t, graphOf(nodes, edges...))
	}
}

// TestManyDrawnGreatGraphs holds Most against what no edge raises any more and what last edges make up, and Cycle against what a cycle must be.
func TestManyDrawnGreatGraphs(t *testing.T) {
	draw := drawn(18)
	told, gained := 0, 0
	for range 300 {
		nodes := 2 + draw(allNodes-1)
		height := make([]int, nodes)
		for node := range height {
			height[node] = draw(1000)
		}
		edges := make([]api.Edge, draw(4*nodes))
		for i := range edges {
			from, to := draw(nodes), draw(nodes)
			edges[i] = edge(from, to, height[to]-height[from]-draw(3))
		}
		if len(edges) > 0 && draw(2) == 0 {
			edges[draw(len(edges))].Weight += 1 + draw(40)
		}
		g := graphOf(nodes, edges...)
		most, why := potential.Most(g)
		if why != api.OK {
			checkCycle(t, g)
			gained++
			continue
		}
		checkMost(t, g, most)
		checkReached(t, g, most)
		told++
	}
	if told < 50 || gained < 50 {
		t.Errorf("only %d are told and %d gain", told, gained)
	}
}

// checkReached sees that no edge raises a node any more, and that each node has 0 or is raised by edges that are just enough, from one that has 0 on.
func checkReached(t *testing.T, g api.Graph, most []int) {
	t.Helper()
	reached := make([]bool, g.Nodes)
	for node, weight := range most {
		reached[node] = weight == 0
	}
	for range g.Nodes {
		for _, e := range g.Edges {
			if most[e.From]+e.Weight > most[e.To] {
				t.Fatalf("%v raises %d of %v", e, most[e.To], most)
			}
			if reached[e.From] && most[e.From]+e.Weight == most[e.To] {
				reached[e.To] = true
			}
		}
	}
	if slices.Contains(reached, false) {
		t.Errorf("%v of %s is more than a walk weighs", most, short(g))
	}
}

func TestAnswersAreNewMemory(t *testing.T) {
	g := graphOf(3, edge(0, 1, 5), edge(1, 2, -2), edge(2, 0, -3))
	got, _ := potential.Most(g)
	clear(got)
	checkMost(t, g, row(0, 5, 3))
	g = ring(3, 1)
	first := checkCycle(t, g)
	was := slices.Clone(first)
	clear(first)
	if again := checkCycle(t, g); !slices.Equal(again, was) {
		t.Errorf("Cycle of %v is %v, and was %v", g, again, was)
	}
}

func TestCallersMayChangeWhatTheyHandedIn(t *testing.T) {
	g := graphOf(2, edge(0, 1, 5), edge(1, 0, -5))
	most, _ := potential.Most(g)
	g.Edges[1].Weight = -4
	cycle, _ := potential.Cycle(g)
	clear(g.Edges)
	if !slices.Equal(most, row(0, 5)) || len(cycle) != 2 {
		t.Errorf("Most is %v and Cycle %v after the edges changed", most, cycle)
	}
}
