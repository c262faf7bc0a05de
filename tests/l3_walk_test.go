package tests

import (
	"fmt"
	"math"
	"math/bits"
	"math/rand"
	"slices"
	"testing"

	"loop.example/hagioscope/impl"
)

// The tests' own words for chapter 3 follow: tables of who is near whom, with
// no queue, no heap and no way that is guided, so that they err in other ways
// than the program.

func nearTable(g impl.Graph) [][]bool {
	table := make([][]bool, len(g.Nodes))
	for i, n := range g.Nodes {
		near := nearWanted(g, n)
		for _, m := range g.Nodes {
			table[i] = append(table[i], slices.Contains(near, m))
		}
	}
	return table
}

// farTable lets each pair of nodes go by way of each node in turn.
func farTable(near [][]bool) [][]int {
	far := make([][]int, len(near))
	for i := range near {
		for j := range near {
			switch {
			case i == j:
				far[i] = append(far[i], 0)
			case near[i][j]:
				far[i] = append(far[i], 1)
			default:
				far[i] = append(far[i], -1)
			}
		}
	}
	for by := range far {
		for i := range far {
			for j := range far {
				if far[i][by] < 0 || far[by][j] < 0 {
					continue
				}
				if by := far[i][by] + far[by][j]; far[i][j] < 0 || by < far[i][j] {
					far[i][j] = by
				}
			}
		}
	}
	return far
}

// waysWanted has, for each node, the first way from it to the end: of no
// steps, of one, of two, until each node that has one has one.
func waysWanted(g impl.Graph, near [][]bool, to int) [][]impl.Node {
	known := make([][]impl.Node, len(near))
	last := make([][]impl.Node, len(near))
	last[to] = []impl.Node{g.Nodes[to]}
	for range near {
		for i, way := range last {
			if known[i] == nil {
				known[i] = way
			}
		}
		longer := make([][]impl.Node, len(near))
		for i := range near {
			for j, way := range last {
				if !near[i][j] || way == nil {
					continue
				}
				more := append([]impl.Node{g.Nodes[i]}, way...)
				if longer[i] == nil || slices.CompareFunc(more, longer[i], compareNodes) < 0 {
					longer[i] = more
				}
			}
		}
		last = longer
	}
	return known
}

func partsWanted(near [][]bool) []int {
	var parts []int
	for _, far := range farTable(near) {
		parts = append(parts, slices.IndexFunc(far, func(steps int) bool { return steps >= 0 }))
	}
	return parts
}

// coreWanted takes, for each k, those away that have fewer than k near, until
// there is none.
func coreWanted(near [][]bool) []int {
	core := make([]int, len(near))
	for k := range near {
		left := slices.Repeat([]bool{true}, len(near))
		for turned := true; turned; {
			turned = false
			for i := range near {
				if left[i] && countLeft(near[i], left) < k {
					left[i], turned = false, true
				}
			}
		}
		for i := range near {
			if left[i] {
				core[i] = k
			}
		}
	}
	return core
}

func countLeft(near []bool, left []bool) int {
	count := 0
	for j := range near {
		if near[j] && left[j] {
			count++
		}
	}
	return count
}

// coreOfSets is the document's words as they stand: all sets of nodes of the
// graph are looked at. It is for few nodes.
func coreOfSets(near [][]bool) []int {
	masks := make([]int, len(near))
	for i := range near {
		for j := range near {
			if near[i][j] {
				masks[i] |= 1 << j
			}
		}
	}
	core := make([]int, len(near))
	for set := 1; set < 1<<len(near); set++ {
		k := len(near)
		for i := range near {
			if set>>i&1 == 1 {
				k = min(k, bits.OnesCount(uint(masks[i]&set)))
			}
		}
		for i := range near {
			if set>>i&1 == 1 {
				core[i] = max(core[i], k)
			}
		}
	}
	return core
}

func threesWanted(near [][]bool) int {
	count := 0
	for c := range near {
		for b := range c {
			for a := range b {
				if near[a][b] && near[b][c] && near[a][c] {
					count++
				}
			}
		}
	}
	return count
}

// wantWalks holds all that is told of a graph that is ok against the tests'
// own words.
func wantWalks(t *testing.T, name string, g impl.Graph) {
	t.Helper()
	if !graphWanted(g) {
		t.Fatal(name, "is no graph", g)
	}
	near := nearTable(g)
	far := farTable(near)
	for i, from := range g.Nodes {
		if got := impl.WalkDist(g, from); !slices.Equal(got, far[i]) {
			t.Errorf("%s: dist from %v: %v, not %v, in %v", name, from, got, far[i], g)
		}
	}
	for j, to := range g.Nodes {
		ways := waysWanted(g, near, j)
		for i, from := range g.Nodes {
			got, ok := impl.WalkPath(g, from, to)
			if ok != (ways[i] != nil) || !slices.Equal(got, ways[i]) || ok && len(got) != far[i][j]+1 {
				t.Errorf("%s: path from %v to %v: %v %v, not %v, in %v", name, from, to, got, ok, ways[i], g)
			}
		}
	}
	if got := impl.WalkParts(g); !slices.Equal(got, partsWanted(near)) {
		t.Errorf("%s: parts %v, not %v, in %v", name, got, partsWanted(near), g)
	}
	if got := impl.WalkCore(g); !slices.Equal(got, coreWanted(near)) {
		t.Errorf("%s: core %v, not %v, in %v", name, got, coreWanted(near), g)
	}
	if got := impl.WalkThrees(g); got != threesWanted(near) {
		t.Errorf("%s: threes %d, not %d, in %v", name, got, threesWanted(near), g)
	}
}

// joined puts edges between nodes of a list into a graph, each of the first of
// the labels that may have it and has room.
func joined(nodes []impl.Node, labels []int, pairs [][2]int) impl.Graph {
	g := impl.Graph{Nodes: slices.SortedFunc(slices.Values(nodes), compareNodes)}
	for _, pair := range pairs {
		a, b := nodes[pair[0]], nodes[pair[1]]
		if compareNodes(a, b) > 0 {
			a, b = b, a
		}
		for _, label := range labels {
			h, code := doWanted(g, putEdge(edgeOf(label, a, b)))
			if code == 0 {
				g = h
				break
			}
		}
	}
	return g
}

func plainNodes(count int) []impl.Node {
	var nodes []impl.Node
	for i := range count {
		nodes = append(nodes, nodeOf(i/5, i%5))
	}
	return nodes
}

var everyLabel = []int{0, 1, 2, 3, 4, 5, 6, 7}

// longGraph is one way through as many nodes as there may be, label by label
// so that neighbours have a label above both with room.
func longGraph() impl.Graph {
	var nodes []impl.Node
	for _, label := range []int{0, 1, 3, 2, 6, 4, 5, 7} {
		for num := range 5 {
			nodes = append(nodes, nodeOf(label, 40-num))
		}
	}
	var pairs [][2]int
	for i := range len(nodes) - 1 {
		pairs = append(pairs, [2]int{i, i + 1})
	}
	return joined(nodes, everyLabel, pairs)
}

// denseGraph is nine nodes, all near each other, with some labels met exactly.
func denseGraph() impl.Graph {
	var pairs [][2]int
	for b := range 9 {
		for a := range b {
			pairs = append(pairs, [2]int{a, b})
		}
	}
	return joined(plainNodes(9), []int{0, 2, 4, 6, 1, 3, 5, 7}, pairs)
}

// crowdedGraph has as many nodes and edges of each label as there may be, and
// many of its edges go from label to label.
func crowdedGraph(r *rand.Rand) impl.Graph {
	g := impl.Graph{Nodes: plainNodes(40)}
	for len(g.Edges) < 56 {
		g, _ = doWanted(g, edgeAmong(r, g))
		if r.Intn(4) == 0 {
			a, b := r.Intn(5), r.Intn(5)
			g, _ = doWanted(g, putEdge(edgeOf(r.Intn(8), nodeOf(0, min(a, b)), nodeOf(0, max(a, b)))))
		}
	}
	return g
}

func TestWalkOfGraphs(t *testing.T) {
	for i, g := range graphsToTry() {
		wantWalks(t, fmt.Sprint("graph ", i), g)
	}
}

func TestWalkOfViews(t *testing.T) {
	r := rand.New(rand.NewSource(6))
	for i := range 6 {
		g := crowdedGraph(r)
		for clear := range labelNames {
			wantWalks(t, fmt.Sprint("view ", i, clear), impl.GraphView(g, clear))
		}
	}
}

// TestWalkOfAllFives is every graph of five nodes, each of its edges by one
// label or another.
func TestWalkOfAllFives(t *testing.T) {
	var pairs [][2]int
	for b := range 5 {
		for a := range b {
			pairs = append(pairs, [2]int{a, b})
		}
	}
	for set := range 1 << len(pairs) {
		var some [][2]int
		for i, pair := range pairs {
			if set>>i&1 == 1 {
				some = append(some, pair)
			}
		}
		g := joined(plainNodes(5), everyLabel[set%7:], some)
		if len(g.Edges) != len(some) {
			t.Fatal(g)
		}
		wantWalks(t, fmt.Sprint("set ", set), g)
		if got, want := impl.WalkCore(g), coreOfSets(nearTable(g)); !slices.Equal(got, want) {
			t.Error(set, got, want)
		}
	}
}

func TestWalkCoreOfSets(t *testing.T) {
	r := rand.New(rand.NewSource(7))
	met := map[int]int{}
	for range 300 {
		g := impl.Graph{Nodes: plainNodes(6 + r.Intn(5))}
		for range r.Intn(90) {
			g, _ = doWanted(g, edgeAmong(r, g))
		}
		want := coreOfSets(nearTable(g))
		if got := impl.WalkCore(g); !slices.Equal(got, want) || !slices.Equal(coreWanted(nearTable(g)), want) {
			t.Error(got, want, g)
		}
		for _, k := range want {
			met[k]++
		}
	}
	for k := range 5 {
		if met[k] == 0 {
			t.Error("never met", k)
		}
	}
}

func TestWalkOfNothing(t *testing.T) {
	for _, g := range []impl.Graph{{}, {Nodes: []impl.Node{}, Edges: []impl.Edge{}}} {
		wantNothing(t, "nothing", g, []impl.Node{{}, nodeOf(0, 1), nodeOf(7, 40), nodeOf(8, 0)})
	}
}

// wantNothing holds of a graph that is not ok, and of one of nothing.
func wantNothing(t *testing.T, name string, g impl.Graph, nodes []impl.Node) {
	t.Helper()
	for _, from := range nodes {
		if got := impl.WalkDist(g, from); len(got) != 0 {
			t.Error(name, "dist", from, got)
		}
		for _, to := range nodes {
			if got, ok := impl.WalkPath(g, from, to); ok || len(got) != 0 {
				t.Error(name, "path", from, to, got, ok)
			}
		}
	}
	if got := impl.WalkParts(g); len(got) != 0 {
		t.Error(name, "parts", got)
	}
	if got := impl.WalkCore(g); len(got) != 0 {
		t.Error(name, "core", got)
	}
	if got := impl.WalkThrees(g); got != 0 {
		t.Error(name, "threes", got)
	}
}

func TestWalkOfBroken(t *testing.T) {
	asked := []impl.Node{{}, nodeOf(0, 40), nodeOf(1, 3), nodeOf(-1, 0), nodeOf(math.MaxInt, math.MinInt)}
	for i, g := range brokenGraphs() {
		nodes := append(slices.Clone(asked), g.Nodes[:min(len(g.Nodes), 6)]...)
		wantNothing(t, fmt.Sprint("broken ", i), g, nodes)
	}
}

// TestWalkOfBrokenThree: all three would be told of if only the nodes and
// edges that are ok were looked at, or none of what is wrong.
func TestWalkOfBrokenThree(t *testing.T) {
	a, b, c := nodeOf(0, 0), nodeOf(0, 1), nodeOf(0, 2)
	ab, ac, bc := edgeOf(0, a, b), edgeOf(0, a, c), edgeOf(0, b, c)
	right := impl.Graph{Nodes: []impl.Node{a, b, c}, Edges: []impl.Edge{ab, ac, bc}}
	wantWalks(t, "three", right)
	for i, g := range []impl.Graph{
		{Nodes: []impl.Node{a, c, b}, Edges: right.Edges},
		{Nodes: []impl.Node{a, b, c, c}, Edges: right.Edges},
		{Nodes: right.Nodes, Edges: []impl.Edge{ac, ab, bc}},
		{Nodes: right.Nodes, Edges: []impl.Edge{ab, ac, bc, bc}},
		{Nodes: right.Nodes, Edges: []impl.Edge{ab, ac, bc, edgeOf(8, a, b)}},
		{Nodes: right.Nodes, Edges: []impl.Edge{ab, ac, edgeOf(0, c, b)}},
		{Nodes: append(slices.Clone(right.Nodes), nodeOf(0, 41)), Edges: right.Edges},
		{Nodes: append(slices.Clone(right.Nodes), nodeOf(math.MaxInt, 0)), Edges: right.Edges},
		{Nodes: append([]impl.Node{nodeOf(0, math.MinInt)}, right.Nodes...), Edges: right.Edges},
		{Nodes: append(slices.Clone(right.Nodes), nodeOf(0, 3), nodeOf(0, 4), nodeOf(0, 5)), Edges: right.Edges},
		{Nodes: right.Nodes, Edges: append(slices.Clone(right.Edges), edgeOf(0, c, nodeOf(0, 3)))},
	} {
		wantNothing(t, fmt.Sprint("three ", i), g, []impl.Node{a, b, c})
	}
}

// TestWalkOfNodesThatAreNotThere: some of them are not ok, and would have the
// number of one that is there if it were worked out for them.
func TestWalkOfNodesThatAreNotThere(t *testing.T) {
	strange := []impl.Node{nodeOf(6, 33), nodeOf(0, 64), nodeOf(-1, 64), nodeOf(-1, 104), nodeOf(0, 67), nodeOf(8, 0), nodeOf(0, 41), nodeOf(0, -1), nodeOf(1<<58, 0), nodeOf(1<<32, 40)}
	for _, wild := range wildNumbers {
		strange = append(strange, nodeOf(wild, wild), nodeOf(wild, -wild))
	}
	for i, g := range graphsToTry()[:12] {
		for _, n := range strange {
			if slices.Contains(g.Nodes, n) {
				continue
			}
			if got := impl.WalkDist(g, n); len(got) != 0 {
				t.Error(i, n, got)
			}
			for _, m := range append([]impl.Node{n, {}}, g.Nodes...) {
				one, oneOk := impl.WalkPath(g, n, m)
				other, otherOk := impl.WalkPath(g, m, n)
				if oneOk || otherOk || len(one) != 0 || len(other) != 0 {
					t.Error(i, n, m, one, other)
				}
			}
		}
	}
}

func TestWalkOfOneNode(t *testing.T) {
	n := nodeOf(5, 40)
	g := impl.Graph{Nodes: []impl.Node{n}}
	wantWalks(t, "alone", g)
	way, ok := impl.WalkPath(g, n, n)
	if !ok || !slices.Equal(way, []impl.Node{n}) {
		t.Error(way, ok)
	}
	if !slices.Equal(impl.WalkDist(g, n), []int{0}) || !slices.Equal(impl.WalkParts(g), []int{0}) || !slices.Equal(impl.WalkCore(g), []int{0}) || impl.WalkThrees(g) != 0 {
		t.Error("alone")
	}
}

// TestWalkBesideOneAlone: a node that no edge has stands between, behind and
// ahead of two that are near.
func TestWalkBesideOneAlone(t *testing.T) {
	for alone := range 3 {
		nodes := plainNodes(3)
		rest := slices.Delete(slices.Clone(nodes), alone, alone+1)
		g := impl.Graph{Nodes: nodes, Edges: []impl.Edge{edgeOf(0, rest[0], rest[1])}}
		wantWalks(t, fmt.Sprint("beside ", alone), g)
		if far := impl.WalkDist(g, nodes[alone]); far[alone] != 0 || slices.Max(far) != 0 || slices.Min(far) != -1 {
			t.Error(alone, far)
		}
		if way, ok := impl.WalkPath(g, rest[0], nodes[alone]); ok || len(way) != 0 {
			t.Error(alone, way)
		}
		if impl.WalkParts(g)[alone] != alone || impl.WalkCore(g)[alone] != 0 {
			t.Error(alone)
		}
	}
}

// TestWalkToItself: of no steps, though there are ways round.
func TestWalkToItself(t *testing.T) {
	for _, g := range []impl.Graph{smallGraph(), fullGraph(), denseGraph(), longGraph()} {
		for i, n := range g.Nodes {
			way, ok := impl.WalkPath(g, n, n)
			if !ok || !slices.Equal(way, []impl.Node{n}) || impl.WalkDist(g, n)[i] != 0 {
				t.Error(n, way, ok)
			}
		}
	}
}

// TestWalkTwoEdges: two nodes are near once, however many edges join them.
func TestWalkTwoEdges(t *testing.T) {
	a, b, c := nodeOf(0, 0), nodeOf(0, 1), nodeOf(0, 2)
	pair := impl.Graph{Nodes: []impl.Node{a, b}}
	three := impl.Graph{Nodes: []impl.Node{a, b, c}}
	for label := range labelNames {
		pair.Edges = append(pair.Edges, edgeOf(label, a, b))
		three.Edges = append(three.Edges, edgeOf(label, a, b), edgeOf(label, a, c), edgeOf(label, b, c))
		wantWalks(t, fmt.Sprint("pair ", label), pair)
		wantWalks(t, fmt.Sprint("three ", label), three)
		if !slices.Equal(impl.WalkCore(pair), []int{1, 1}) || impl.WalkThrees(pair) != 0 {
			t.Error(label, impl.WalkCore(pair), impl.WalkThrees(pair))
		}
		if !slices.Equal(impl.WalkCore(three), []int{2, 2, 2}) || impl.WalkThrees(three) != 1 {
			t.Error(label, impl.WalkCore(three), impl.WalkThrees(three))
		}
	}
}

// TestWalkFirstOfWays: of ways of as many steps the second node is looked at
// first, then the third, wherever the labels of the edges stand.
func TestWalkFirstOfWays(t *testing.T) {
	n := []impl.Node{nodeOf(0, 0), nodeOf(0, 1), nodeOf(0, 2), nodeOf(1, 0), nodeOf(1, 1), nodeOf(1, 2), nodeOf(2, 0)}
	at := func(places ...int) []impl.Node {
		var list []impl.Node
		for _, place := range places {
			list = append(list, n[place])
		}
		return list
	}
	for i, c := range []struct {
		pairs [][2]int
		want  []impl.Node
	}{
		{[][2]int{{0, 2}, {2, 6}, {0, 1}, {1, 6}}, at(0, 1, 6)},
		{[][2]int{{0, 1}, {0, 2}, {1, 5}, {2, 3}, {5, 6}, {3, 6}}, at(0, 1, 5, 6)},
		{[][2]int{{0, 1}, {0, 2}, {1, 5}, {2, 3}, {3, 6}}, at(0, 2, 3, 6)},
		{[][2]int{{0, 4}, {4, 1}, {4, 2}, {1, 6}, {2, 6}}, at(0, 4, 1, 6)},
		{[][2]int{{0, 5}, {5, 1}, {0, 4}, {4, 2}, {1, 6}, {2, 6}}, at(0, 4, 2, 6)},
		{[][2]int{{0, 1}, {1, 2}, {2, 6}, {0, 5}, {5, 6}}, at(0, 5, 6)},
		{[][2]int{{0, 1}, {1, 2}, {2, 6}, {0, 6}}, at(0, 6)},
	} {
		for turn := range labelNames {
			labels := append(slices.Clone(everyLabel[turn:]), everyLabel[:turn]...)
			g := joined(n, labels, c.pairs)
			wantWalks(t, fmt.Sprint("ways ", i, turn), g)
			if got, ok := impl.WalkPath(g, n[0], n[6]); !ok || !slices.Equal(got, c.want) {
				t.Error(i, turn, got, c.want)
			}
		}
	}
}

// TestWalkManyWays: two by two, each near both of the next two, so that ways
// with the fewest steps part and meet all along.
func TestWalkManyWays(t *testing.T) {
	var nodes []impl.Node
	for _, label := range []int{0, 1, 3} {
		for num := range 5 {
			nodes = append(nodes, nodeOf(label, num))
		}
	}
	var pairs [][2]int
	for i := 0; i+3 < 14; i += 2 {
		pairs = append(pairs, [2]int{i, i + 2}, [2]int{i, i + 3}, [2]int{i + 1, i + 2}, [2]int{i + 1, i + 3})
	}
	g := joined(nodes, []int{0, 2, 4, 6, 1, 5, 3, 7}, pairs)
	if len(g.Edges) != len(pairs) {
		t.Fatal(g)
	}
	wantWalks(t, "two by two", g)
	there, ok := impl.WalkPath(g, nodes[1], nodes[13])
	want := []impl.Node{nodes[1], nodes[2], nodes[4], nodes[6], nodes[8], nodes[10], nodes[13]}
	if !ok || !slices.Equal(there, want) {
		t.Error(there, want)
	}
	back, ok := impl.WalkPath(g, nodes[13], nodes[1])
	want = []impl.Node{nodes[13], nodes[10], nodes[8], nodes[6], nodes[4], nodes[2], nodes[1]}
	if !ok || !slices.Equal(back, want) {
		t.Error(back, want)
	}
}

func TestWalkLongest(t *testing.T) {
	g := longGraph()
	if len(g.Nodes) != 40 || len(g.Edges) != 39 {
		t.Fatal(g)
	}
	wantWalks(t, "long", g)
	from, to := nodeOf(0, 40), nodeOf(7, 36)
	if way, ok := impl.WalkPath(g, from, to); !ok || len(way) != 40 || way[0] != from || way[39] != to {
		t.Error(way, ok)
	}
	if slices.Max(impl.WalkDist(g, from)) != 39 || slices.Max(impl.WalkParts(g)) != 0 || slices.Max(impl.WalkCore(g)) != 1 || impl.WalkThrees(g) != 0 {
		t.Error("long")
	}
}

func TestWalkDensest(t *testing.T) {
	g := denseGraph()
	if len(g.Edges) != 36 {
		t.Fatal(g)
	}
	wantWalks(t, "dense", g)
	if !slices.Equal(impl.WalkCore(g), slices.Repeat([]int{8}, 9)) || impl.WalkThrees(g) != 84 || !slices.Equal(impl.WalkCore(g), coreOfSets(nearTable(g))) {
		t.Error(impl.WalkCore(g), impl.WalkThrees(g))
	}
}

// TestWalkFull: as many nodes and edges of each label as there may be, label
// by label in parts, and across labels.
func TestWalkFull(t *testing.T) {
	g := fullGraph()
	wantWalks(t, "full", g)
	for i := range 40 {
		if impl.WalkParts(g)[i] != i/5*5 || impl.WalkCore(g)[i] != 2 {
			t.Error(i, impl.WalkParts(g), impl.WalkCore(g))
		}
	}
	if impl.WalkThrees(g) != 24 {
		t.Error(impl.WalkThrees(g))
	}
	r := rand.New(rand.NewSource(8))
	for i := range 20 {
		crowded := crowdedGraph(r)
		for label := range labelNames {
			if countNodes(crowded, label) != 5 || countEdges(crowded, label) != 7 {
				t.Fatal(crowded)
			}
		}
		wantWalks(t, fmt.Sprint("crowded ", i), crowded)
	}
}

// TestWalkDenseWithTail: one between two dense parts is as dense as the lesser
// one; those that hang on a dense part by one edge are not.
func TestWalkDenseWithTail(t *testing.T) {
	pairs := [][2]int{{0, 1}, {0, 2}, {0, 3}, {1, 2}, {1, 3}, {2, 3}, {3, 4}, {4, 5}, {5, 6}, {6, 7}, {7, 5}, {7, 8}, {7, 9}}
	g := joined(plainNodes(10), []int{0, 1, 3, 7}, pairs)
	if len(g.Edges) != len(pairs) {
		t.Fatal(g)
	}
	wantWalks(t, "tail", g)
	if got := impl.WalkCore(g); !slices.Equal(got, []int{3, 3, 3, 3, 2, 2, 2, 2, 1, 1}) || impl.WalkThrees(g) != 5 {
		t.Error(got, impl.WalkThrees(g))
	}
}

func scribbleNumbers(list []int) {
	for i := range list[:cap(list)] {
		list[:cap(list)][i] = -9
	}
}

// walkAll is all that is told of a graph, and writes over each answer when it
// has been copied.
func walkAll(g impl.Graph, hold func(name string)) string {
	told := ""
	numbers := func(name string, list []int) {
		told += fmt.Sprintln(name, list)
		scribbleNumbers(list)
		hold(name)
	}
	numbers("parts", impl.WalkParts(g))
	numbers("core", impl.WalkCore(g))
	told += fmt.Sprintln(impl.WalkThrees(g))
	hold("threes")
	nodes := append([]impl.Node{nodeOf(0, 41)}, g.Nodes[:min(len(g.Nodes), 8)]...)
	for _, from := range nodes {
		numbers("dist", impl.WalkDist(g, from))
		for _, to := range nodes {
			way, ok := impl.WalkPath(g, from, to)
			told += fmt.Sprintln(way, ok)
			scribbleNodes(way)
			hold("path")
		}
	}
	return told
}

func TestWalkAnswersAreNewMemory(t *testing.T) {
	all := append(graphsToTry(), brokenGraphs()...)
	for i, plain := range append(all, longGraph(), denseGraph()) {
		g, whole := roomy(plain)
		kept := copyGraph(whole)
		hold := func(name string) {
			if !sameGraph(whole, kept) || !sameGraph(g, plain) {
				t.Fatal(i, name)
			}
		}
		if first, again := walkAll(g, hold), walkAll(g, hold); first != again {
			t.Fatal(i, "told anew:", first, again)
		}
	}
}
