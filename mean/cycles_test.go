package mean_test

import (
	"slices"
	"testing"
	"time"

	"tidewait/api"
	"tidewait/mean"
)

// join is one graph with all these edges.
func join(nodes int, parts ...[]api.Edge) api.Graph {
	return graphOf(nodes, slices.Concat(parts...)...)
}

func only(from, to, weight int) []api.Edge {
	return []api.Edge{edge(from, to, weight)}
}

func TestCyclesBelowNothingAlone(t *testing.T) {
	for _, c := range []struct {
		g    api.Graph
		want api.Frac
	}{
		{graphOf(2, edge(0, 0, -3), edge(1, 1, -2)), frac(-2, 1)},
		{graphOf(2, edge(0, 0, -2), edge(1, 1, -3)), frac(-2, 1)},
		{graphOf(2, edge(0, 0, -2), edge(0, 1, -1), edge(1, 0, -2)), frac(-3, 2)},
		{graphOf(2, edge(0, 0, -heavy), edge(0, 1, -heavy), edge(1, 0, -heavy+1)), frac(-2*heavy+1, 2)},
		{graphOf(3, edge(0, 1, -5), edge(1, 2, 4), edge(2, 0, -1), edge(1, 1, -1)), frac(-2, 3)},
		{graphOf(3, edge(0, 1, heavy), edge(1, 2, heavy), edge(2, 2, -heavy), edge(0, 0, -heavy+1)), frac(-heavy+1, 1)},
		{join(allNodes, ring(0, allNodes, -allNodes-1), only(3, 3, -1)), frac(-1, 1)},
		{join(allNodes, ring(0, allNodes, -allNodes+1), only(3, 3, -1)), frac(-allNodes+1, allNodes)},
	} {
		checkInAllOrders(t, c.g, c.want)
	}
}

func TestCyclesThatWeighTheSameByTheEdge(t *testing.T) {
	for _, c := range []struct {
		g    api.Graph
		want api.Frac
	}{
		{join(5, ring(0, 2, 6), ring(2, 3, 9)), frac(3, 1)},
		{join(5, ring(0, 2, -6), ring(2, 3, -9)), frac(-3, 1)},
		{join(5, ring(0, 2, 0), ring(2, 3, 0)), frac(0, 1)},
		{join(6, ring(0, 2, 1), ring(2, 4, 2)), frac(1, 2)},
		{join(6, ring(0, 2, 1), ring(2, 4, 2), only(1, 2, heavy)), frac(1, 2)},
		{join(6, ring(0, 2, 1), ring(2, 4, 2), only(2, 1, heavy)), frac(1, 2)},
		{join(9, ring(0, 3, -2), ring(3, 6, -4), only(0, 8, -heavy)), frac(-2, 3)},
		{join(3, only(0, 0, 2), ring(0, 3, 6)), frac(2, 1)},
		{join(4, ring(0, 4, 6), only(1, 1, 1), only(2, 2, 1)), frac(3, 2)},
		{join(allNodes, ring(0, 100, 50), ring(100, 200, 100), only(0, 100, 9)), frac(1, 2)},
		{join(allNodes, ring(0, 150, 7), ring(150, 150, 7), only(299, 0, heavy)), frac(7, 150)},
	} {
		checkInAllOrders(t, c.g, c.want)
	}
}

func TestCyclesOfUnlikeLengths(t *testing.T) {
	for _, c := range []struct {
		why  string
		g    api.Graph
		want api.Frac
		long int
	}{
		{"shorter, less in all, more by the edge", join(5, ring(0, 2, 6), ring(2, 3, 8)), frac(3, 1), 2},
		{"shorter, less in all, more by the edge", join(12, ring(0, 2, 1), ring(2, 10, 4)), frac(1, 2), 2},
		{"shorter, less in all, more by the edge", join(allNodes, ring(0, allNodes, allNodes-1), only(7, 7, 1)), frac(1, 1), 1},
		{"longer, less in all, more by the edge", join(5, ring(0, 2, -6), ring(2, 3, -8)), frac(-8, 3), 3},
		{"longer, less in all, more by the edge", join(12, ring(0, 2, -1), ring(2, 10, -4)), frac(-2, 5), 10},
		{"longer, less in all, more by the edge", join(allNodes, ring(0, allNodes, -allNodes+1), only(7, 7, -1)), frac(-allNodes+1, allNodes), allNodes},
		{"longer, more in all and by the edge", join(5, ring(0, 2, 5), ring(2, 3, 8)), frac(8, 3), 3},
		{"longer, more in all and by the edge", join(allNodes, ring(0, allNodes, allNodes+1), only(7, 7, 1)), frac(allNodes+1, allNodes), allNodes},
		{"shorter, more in all and by the edge", join(5, ring(0, 2, 9), ring(2, 3, 8)), frac(9, 2), 2},
		{"as much in all, above 0: the shorter one", join(5, ring(0, 2, 5), ring(2, 3, 5)), frac(5, 2), 2},
		{"as much in all, below 0: the longer one", join(5, ring(0, 2, -5), ring(2, 3, -5)), frac(-5, 3), 3},
	} {
		for _, g := range inAllOrders(c.g) {
			if got := check(t, g, c.want); len(got) != c.long {
				t.Errorf("%s: Best has %d edges, not %d", c.why, len(got), c.long)
			}
		}
	}
}

// twins are two cycles through node 0 with one edge more in the one than in the other, and that many nodes in all: they share all but their last edges.
func twins(edges, longer, shorter int) api.Graph {
	all := ring(0, edges, longer)
	shared := 0
	for _, e := range all[:edges-2] {
		shared += e.Weight
	}
	return join(edges, all, only(edges-2, 0, shorter-shared))
}

func TestCyclesThatHardlyDiffer(t *testing.T) {
	for _, edges := range row(3, 4, 10, 150, 299, allNodes) {
		for _, base := range row(0, 5, -5, 1000, heavy/2, -heavy/2) {
			// 1 through (edges - 1) is more than 1 through edges, by one through their product; and so for what both lack.
			checkTwins := func(longer, shorter int, want api.Frac, long int) {
				t.Helper()
				g := twins(edges, base*edges+longer, base*(edges-1)+shorter)
				want.Num += base * want.Den
				for _, g := range inAllOrders(g) {
					if got := check(t, g, want); len(got) != long {
						t.Errorf("of %d and %d edges the better ones are %d, not %d", edges, edges-1, long, len(got))
					}
				}
			}
			checkTwins(1, 1, frac(1, edges-1), edges-1)
			checkTwins(-1, -1, frac(-1, edges), edges)
			checkTwins(edges-1, edges-2, frac(edges-1, edges), edges)
			checkTwins(1-edges, 2-edges, frac(2-edges, edges-1), edges-1)
		}
	}
}

// TestCyclesApartThatHardlyDiffer has rings with no node in common, by the bound of what two unlike ones differ at least.
func TestCyclesApartThatHardlyDiffer(t *testing.T) {
	pairs := 0
	for _, c := range [][2]int{{2, 3}, {7, 9}, {10, 13}, {97, 100}, {100, 199}, {101, 199}, {149, 150}, {149, 151}} {
		first, second := c[0], c[1]
		for above := -first; above <= first; above++ {
			for _, below := range row(above*second/first-1, above*second/first, above*second/first+1) {
				apart := above*second - below*first
				if apart != 1 && apart != -1 {
					continue
				}
				want, long := frac(above, first), first
				if apart < 0 {
					want, long = frac(below, second), second
				}
				g := join(allNodes, ring(0, first, above), ring(first, second, below))
				for _, g := range []api.Graph{g, renamed(g)} {
					if got := check(t, g, want); len(got) != long {
						t.Errorf("of %d and %d edges the better ones are %d, not %d", first, second, long, len(got))
					}
				}
				pairs++
			}
		}
	}
	if pairs < 16 {
		t.Errorf("only %d pairs were that near", pairs)
	}
}

func TestCyclesThatShare(t *testing.T) {
	for _, c := range []struct {
		g    api.Graph
		want api.Frac
	}{
		// A node.
		{graphOf(3, edge(0, 1, 5), edge(1, 0, -2), edge(1, 2, 9), edge(2, 2, 1)), frac(3, 2)},
		{graphOf(3, edge(0, 1, 5), edge(1, 0, -2), edge(1, 2, 9), edge(2, 1, -7)), frac(3, 2)},
		{graphOf(3, edge(0, 1, 5), edge(1, 0, -2), edge(1, 2, 9), edge(2, 1, -5)), frac(2, 1)},
		{graphOf(3, edge(0, 1, 5), edge(1, 0, -2), edge(1, 2, 9), edge(2, 1, -5), edge(1, 1, 3)), frac(3, 1)},
		{graphOf(4, edge(0, 1, 1), edge(1, 2, 1), edge(2, 0, 1), edge(0, 3, 2), edge(3, 0, 1)), frac(3, 2)},
		// An edge, or more of them.
		{graphOf(3, edge(0, 1, 6), edge(1, 0, 0), edge(1, 2, 2), edge(2, 0, 2)), frac(10, 3)},
		{graphOf(3, edge(0, 1, 6), edge(1, 0, 1), edge(1, 2, 2), edge(2, 0, 2)), frac(7, 2)},
		{graphOf(4, edge(0, 1, -6), edge(1, 2, -1), edge(2, 0, 0), edge(2, 3, 1), edge(3, 0, 0)), frac(-3, 2)},
		{graphOf(4, edge(0, 1, -6), edge(1, 2, -1), edge(2, 0, 1), edge(2, 3, -heavy), edge(3, 0, heavy)), frac(-7, 4)},
		// Nothing.
		{join(9, ring(0, 3, 5), ring(3, 3, 7), ring(6, 3, 6)), frac(7, 3)},
		{join(9, ring(0, 3, 7), ring(3, 3, 5), ring(6, 3, 6)), frac(7, 3)},
		{join(9, ring(0, 3, 5), ring(3, 3, 6), ring(6, 3, 7)), frac(7, 3)},
		{join(9, ring(0, 3, -5), ring(3, 3, -6), ring(6, 3, -7)), frac(-5, 3)},
		{join(allNodes, ring(0, 3, -5), ring(200, 90, -90)), frac(-1, 1)},
	} {
		checkInAllOrders(t, c.g, c.want)
	}
}

func TestCyclesThatAreHardToComeTo(t *testing.T) {
	const last = allNodes - 1
	for _, c := range []struct {
		g    api.Graph
		want api.Frac
	}{
		// By edges that weigh far below 0.
		{graphOf(2, edge(0, 0, 1), edge(0, 1, -heavy), edge(1, 1, 2)), frac(2, 1)},
		{graphOf(2, edge(0, 0, -heavy+1), edge(0, 1, -heavy), edge(1, 1, -heavy+2)), frac(-heavy+2, 1)},
		{join(allNodes, path(0, allNodes, -heavy), only(0, 0, 4), only(last, last, 5)), frac(5, 1)},
		{join(allNodes, path(0, allNodes, -heavy), only(0, 0, 6), only(last, last, 5)), frac(6, 1)},
		{join(allNodes, path(0, allNodes-1, -heavy), only(last-1, last, 3), only(last, last-1, 4)), frac(7, 2)},
		{join(allNodes, path(0, 151, -heavy), ring(0, 10, 1499), ring(150, 150, 150*150)), frac(150, 1)},
		// Where what leads from a worse one, or to one, weighs far above 0.
		{join(allNodes, path(0, allNodes, heavy), only(0, 0, 1), only(last, last, -heavy)), frac(1, 1)},
		{join(allNodes, path(0, allNodes, heavy), only(0, 0, -heavy), only(last, last, 1-heavy)), frac(1-heavy, 1)},
		{join(allNodes, path(0, 299, heavy), only(0, 0, -heavy), only(last, last, -heavy+1)), frac(-heavy+1, 1)},
		{join(allNodes, path(0, 200, heavy), ring(200, 100, -100)), frac(-1, 1)},
		// One from another, there, or there and back.
		{join(7, ring(0, 3, 8), ring(3, 4, 11), only(1, 5, -heavy)), frac(11, 4)},
		{join(7, ring(0, 3, 8), ring(3, 4, 11), only(5, 1, -heavy)), frac(11, 4)},
		{join(7, ring(0, 3, 8), ring(3, 4, 10), only(1, 5, heavy)), frac(8, 3)},
		{join(7, ring(0, 3, 8), ring(3, 4, 10), only(5, 1, heavy)), frac(8, 3)},
		{join(7, ring(0, 3, 8), ring(3, 4, 11), only(1, 5, -heavy), only(5, 1, -heavy)), frac(11, 4)},
		{join(7, ring(0, 3, 8), ring(3, 4, 10), only(1, 5, -heavy), only(5, 1, heavy-1)), frac(8, 3)},
		{join(7, ring(0, 3, 8), ring(3, 4, 10), only(1, 5, -heavy), only(5, 1, heavy)), frac(8, 3)},
		{join(7, ring(0, 3, 8), ring(3, 4, 10), only(1, 5, -heavy+6), only(5, 1, heavy)), frac(3, 1)},
	} {
		checkInAllOrders(t, c.g, c.want)
	}
}

// dense has as many edges as there may be: from each node to the next 16 ones, and round.
func dense(weight func(from, to int) int) api.Graph {
	var edges []api.Edge
	for node := range allNodes {
		for far := 1; far <= allEdges/allNodes; far++ {
			to := (node + far) % allNodes
			edges = append(edges, edge(node, to, weight(node, to)))
		}
	}
	return graphOf(allNodes, edges...)
}

func TestGreatestAndLeastWeights(t *testing.T) {
	for _, weight := range row(heavy, -heavy) {
		alike := func(int, int) int { return weight }
		check(t, dense(alike), frac(weight, 1))
		check(t, graphOf(1, slices.Repeat(only(0, 0, weight), allEdges)...), frac(weight, 1))
		check(t, graphOf(2, slices.Repeat([]api.Edge{edge(0, 1, weight), edge(1, 0, weight)}, allEdges/2)...), frac(weight, 1))
		once := append(path(0, allNodes, weight), edge(allNodes-1, 0, weight))
		checkInAllOrders(t, graphOf(allNodes, once...), frac(weight, 1))
		checkInAllOrders(t, graphOf(allNodes, slices.Repeat(once, allEdges/allNodes)...), frac(weight, 1))
		for _, number := range row(0, allNodes/2, allNodes-1) {
			nearly := slices.Clone(once)
			nearly[number].Weight -= weight / heavy
			checkInAllOrders(t, graphOf(allNodes, nearly...), frac(weight*allNodes-weight/heavy, allNodes))
		}
	}
	other := func(from, to int) int { return heavy - 2*heavy*(from&1) }
	// Only edges from even nodes are heavy: and there are some from even ones to even ones.
	check(t, dense(other), frac(heavy, 1))
	half := append(path(0, allNodes/2, heavy), path(allNodes/2, allNodes/2, -heavy)...)
	half = append(half, edge(allNodes/2-1, allNodes/2, heavy), edge(allNodes-1, 0, -heavy))
	checkInAllOrders(t, graphOf(allNodes, half...), frac(0, 1))
}

// more is whether some cycle weighs more by the edge than this: each edge weighed less that, one that does gains for ever.
func more(g api.Graph, f api.Frac) bool {
	most := make([]int, g.Nodes)
	raised := true
	for pass := 0; raised && pass <= g.Nodes; pass++ {
		raised = false
		for _, e := range g.Edges {
			if weight := most[e.From] + e.Weight*f.Den - f.Num; weight > most[e.To] {
				most[e.To] = weight
				raised = true
			}
		}
	}
	return raised
}

func TestWhereThereAreAllEdges(t *testing.T) {
	height := func(node int) int { return node * 7919 % 10007 }
	hill := func(from, to int) int { return height(to) - height(from) }
	for _, base := range row(0, 3, -3, 100000, -100000) {
		// Who goes round is as high as before: each cycle weighs just its edges.
		g := dense(func(from, to int) int { return hill(from, to) + base })
		check(t, g, frac(base, 1))
		for _, at := range row(0, allEdges/2, allEdges-1) {
			g.Edges[at].Weight++
			if got, _ := checkTold(t, g); got.Num <= base*got.Den || more(g, got) {
				t.Errorf("one edge is heavier than %d, and Greatest is %v", base, got)
			}
			g.Edges[at].Weight--
		}
	}
}

// drawn gives numbers that look drawn, always the same ones.
func drawn(seed uint64) func(below int) int {
	return func(below int) int {
		seed = seed*6364136223846793005 + 1442695040888963407
		return int(seed>>33) % below
	}
}

// checkByCycles holds what is told against all cycles of no more edges than there are nodes.
func checkByCycles(t *testing.T, g api.Graph) {
	t.Helper()
	var most api.Frac
	var goOn func(first, node, weight, edges int)
	goOn = func(first, node, weight, edges int) {
		if edges > 0 && node == first && (most.Den == 0 || weight*most.Den > most.Num*edges) {
			most = frac(weight, edges)
		}
		if edges == g.Nodes {
			return
		}
		for _, e := range g.Edges {
			if e.From == node {
				goOn(first, e.To, weight+e.Weight, edges+1)
			}
		}
	}
	for node := range g.Nodes {
		goOn(node, node, 0, 0)
	}
	if most.Den == 0 {
		checkNothing(t, g, api.ErrNone)
		return
	}
	if got, _ := checkTold(t, g); got.Num*most.Den != most.Num*got.Den {
		t.Errorf("Greatest of %s is %v, not %v", short(g), got, most)
	}
}

// allGraphs gives each graph with so many nodes and edges, in each order of the edges, that weigh one of these.
func allGraphs(nodes, edges int, weights []int, see func(g api.Graph)) {
	g := graphOf(nodes, make([]api.Edge, edges)...)
	var fill func(at int)
	fill = func(at int) {
		if at == edges {
			see(g)
			return
		}
		for code := range nodes * nodes * len(weights) {
			pair := code / len(weights)
			g.Edges[at] = edge(pair/nodes, pair%nodes, weights[code%len(weights)])
			fill(at + 1)
		}
	}
	fill(0)
}

func TestAllSmallGraphsByCycles(t *testing.T) {
	for _, c := range []struct {
		nodes, edges int
		weights      []int
	}{
		{0, 0, nil}, {1, 0, nil}, {4, 0, nil},
		{1, 1, row(-2, -1, 0, 1, 2)}, {1, 2, row(-2, -1, 0, 1, 2)}, {1, 3, row(-2, -1, 0, 1, 2)},
		{2, 1, row(-3, -1, 0, 1, 3)}, {2, 2, row(-3, -1, 0, 1, 3)}, {2, 3, row(-3, -1, 0, 1, 3)}, {2, 4, row(-1, 0, 1)},
		{3, 1, row(-2, -1, 0, 1, 2)}, {3, 2, row(-2, -1, 0, 1, 2)}, {3, 3, row(-1, 0, 1)}, {3, 4, row(-1, 2)},
		{4, 3, row(-1, 2)},
	} {
		allGraphs(c.nodes, c.edges, c.weights, func(g api.Graph) { checkByCycles(t, g) })
	}
}

func TestManyDrawnGraphsByCycles(t *testing.T) {
	draw := drawn(18)
	for range 20000 {
		nodes := 1 + draw(6)
		spread := row(1, 3, 10, heavy)[draw(4)]
		lower := draw(spread + 1)
		edges := make([]api.Edge, draw(12))
		for i := range edges {
			edges[i] = edge(draw(nodes), draw(nodes), draw(2*spread+1-lower)-spread)
		}
		checkByCycles(t, graphOf(nodes, edges...))
	}
}

func TestManyDrawnGreatGraphs(t *testing.T) {
	draw := drawn(19)
	told := 0
	for range 150 {
		nodes := 2 + draw(allNodes-1)
		spread := row(2, 50, heavy)[draw(3)]
		edges := make([]api.Edge, draw(min(allEdges, 4*nodes)))
		for i := range edges {
			edges[i] = edge(draw(nodes), draw(nodes), draw(2*spread+1)-spread)
		}
		g := graphOf(nodes, edges...)
		if _, why := mean.Greatest(g); why != api.OK {
			checkNothing(t, g, api.ErrNone)
			if more(g, frac(-heavy-1, 1)) {
				t.Errorf("%s has a cycle, and none is told", short(g))
			}
			continue
		}
		if got, _ := checkTold(t, g); more(g, got) {
			t.Errorf("Greatest of %s is %v, and there is more", short(g), got)
		}
		told++
	}
	if told < 100 {
		t.Errorf("only %d are told", told)
	}
}

// TestBothEndSoon gives far more time than is needed, but not enough to try all cycles.
func TestBothEndSoon(t *testing.T) {
	draw := drawn(20)
	for _, g := range []api.Graph{
		dense(func(int, int) int { return heavy }),
		dense(func(from, to int) int { return (from*31+to*17)%2003 - 1001 }),
		dense(func(int, int) int { return draw(2*heavy+1) - heavy }),
		onward(func(number int) int { return number }),
		graphOf(allNodes, slices.Repeat(ring(0, allNodes, 1), allEdges/allNodes)...),
		graphOf(allNodes, slices.Repeat(only(allNodes-1, allNodes-1, 1), allEdges)...),
	} {
		ended := make(chan struct{})
		go func() {
			defer close(ended)
			mean.Greatest(g)
			mean.Best(g)
		}()
		select {
		case <-ended:
		case <-time.After(10 * time.Second):
			t.Fatalf("%s is not told within 10 seconds", short(g))
		}
	}
}

func TestAnswersAreNewMemory(t *testing.T) {
	g := graphOf(3, ring(0, 3, 1)...)
	first := check(t, g, frac(1, 3))
	was := slices.Clone(first)
	clear(first[:cap(first)])
	if again := check(t, g, frac(1, 3)); !slices.Equal(again, was) {
		t.Errorf("Best of %v is %v, and was %v", g, again, was)
	}
	cycle, _ := mean.Best(g)
	clear(g.Edges[:cap(g.Edges)])
	if !slices.Equal(cycle, was) {
		t.Errorf("Best is %v after the edges changed, and was %v", cycle, was)
	}
}
