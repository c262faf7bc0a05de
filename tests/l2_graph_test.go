package tests

import (
	"cmp"
	"math"
	"math/rand"
	"slices"
	"testing"

	"loop.example/hagioscope/impl"
)

func nodeOf(label int, num int) impl.Node { return impl.Node{Label: label, Num: num} }

func edgeOf(label int, a impl.Node, b impl.Node) impl.Edge {
	return impl.Edge{Label: label, A: a, B: b}
}

func putNode(n impl.Node) impl.Op  { return impl.Op{Kind: impl.OpNode, Node: n} }
func goneNode(n impl.Node) impl.Op { return impl.Op{Kind: impl.OpGone, Node: n} }
func putEdge(e impl.Edge) impl.Op  { return impl.Op{Kind: impl.OpEdge, Edge: e} }
func cutEdge(e impl.Edge) impl.Op  { return impl.Op{Kind: impl.OpCut, Edge: e} }

// The tests' own words for chapter 2 follow: lists and letters, no maps and
// no codes, so that they err in other ways than the program.

func compareNodes(a impl.Node, b impl.Node) int {
	return cmp.Or(cmp.Compare(a.Label, b.Label), cmp.Compare(a.Num, b.Num))
}

func compareEdges(a impl.Edge, b impl.Edge) int {
	return cmp.Or(cmp.Compare(a.Label, b.Label), compareNodes(a.A, b.A), compareNodes(a.B, b.B))
}

func isLabel(a int) bool { return a >= 0 && a < len(labelNames) }

func seenWith(label int, clear int) bool {
	return isLabel(label) && isLabel(clear) && lettersIn(labelNames[label], labelNames[clear])
}

func nodeWanted(n impl.Node) bool { return isLabel(n.Label) && n.Num >= 0 && n.Num <= 40 }

func edgeWanted(e impl.Edge) bool {
	return isLabel(e.Label) && nodeWanted(e.A) && nodeWanted(e.B) && compareNodes(e.A, e.B) < 0 &&
		seenWith(e.A.Label, e.Label) && seenWith(e.B.Label, e.Label)
}

func countNodes(g impl.Graph, label int) int {
	count := 0
	for _, n := range g.Nodes {
		if n.Label == label {
			count++
		}
	}
	return count
}

func countEdges(g impl.Graph, label int) int {
	count := 0
	for _, e := range g.Edges {
		if e.Label == label {
			count++
		}
	}
	return count
}

func graphWanted(g impl.Graph) bool {
	for i, n := range g.Nodes {
		if !nodeWanted(n) || countNodes(g, n.Label) > 5 || i > 0 && compareNodes(g.Nodes[i-1], n) >= 0 {
			return false
		}
	}
	for i, e := range g.Edges {
		if !edgeWanted(e) || countEdges(g, e.Label) > 7 || i > 0 && compareEdges(g.Edges[i-1], e) >= 0 {
			return false
		}
		if !slices.Contains(g.Nodes, e.A) || !slices.Contains(g.Nodes, e.B) {
			return false
		}
	}
	return true
}

func opLabelWanted(op impl.Op) int {
	switch op.Kind {
	case 1, 4:
		if nodeWanted(op.Node) && op.Edge == (impl.Edge{}) {
			return op.Node.Label
		}
	case 2, 3:
		if edgeWanted(op.Edge) && op.Node == (impl.Node{}) {
			return op.Edge.Label
		}
	}
	return -1
}

func codeWanted(g impl.Graph, op impl.Op) int {
	hasNode := func(n impl.Node) bool { return slices.Contains(g.Nodes, n) }
	hasEdge := slices.Contains(g.Edges, op.Edge)
	switch {
	case !graphWanted(g) || opLabelWanted(op) < 0:
		return 1
	case op.Kind == 1 && hasNode(op.Node) || op.Kind == 2 && hasEdge:
		return 2
	case op.Kind == 4 && !hasNode(op.Node) || op.Kind == 3 && !hasEdge:
		return 3
	case op.Kind == 2 && (!hasNode(op.Edge.A) || !hasNode(op.Edge.B)):
		return 3
	case op.Kind == 1 && countNodes(g, op.Node.Label) == 5 || op.Kind == 2 && countEdges(g, op.Edge.Label) == 7:
		return 4
	}
	return 0
}

func copyGraph(g impl.Graph) impl.Graph {
	return impl.Graph{Nodes: slices.Clone(g.Nodes), Edges: slices.Clone(g.Edges)}
}

func sameGraph(a impl.Graph, b impl.Graph) bool {
	return slices.Equal(a.Nodes, b.Nodes) && slices.Equal(a.Edges, b.Edges)
}

func doWanted(g impl.Graph, op impl.Op) (impl.Graph, int) {
	if !graphWanted(g) {
		return impl.Graph{}, 1
	}
	h := copyGraph(g)
	code := codeWanted(g, op)
	if code != 0 {
		return h, code
	}
	switch op.Kind {
	case 1:
		h.Nodes = append(h.Nodes, op.Node)
		slices.SortFunc(h.Nodes, compareNodes)
	case 2:
		h.Edges = append(h.Edges, op.Edge)
		slices.SortFunc(h.Edges, compareEdges)
	case 3:
		h.Edges = slices.DeleteFunc(h.Edges, func(e impl.Edge) bool { return e == op.Edge })
	case 4:
		h.Nodes = slices.DeleteFunc(h.Nodes, func(n impl.Node) bool { return n == op.Node })
		h.Edges = slices.DeleteFunc(h.Edges, func(e impl.Edge) bool { return e.A == op.Node || e.B == op.Node })
	}
	return h, 0
}

func viewWanted(g impl.Graph, clear int) impl.Graph {
	if !graphWanted(g) || !isLabel(clear) {
		return impl.Graph{}
	}
	h := copyGraph(g)
	h.Nodes = slices.DeleteFunc(h.Nodes, func(n impl.Node) bool { return !seenWith(n.Label, clear) })
	h.Edges = slices.DeleteFunc(h.Edges, func(e impl.Edge) bool { return !seenWith(e.Label, clear) })
	return h
}

func nearWanted(g impl.Graph, n impl.Node) []impl.Node {
	var near []impl.Node
	if !graphWanted(g) {
		return near
	}
	for _, m := range g.Nodes {
		if slices.ContainsFunc(g.Edges, func(e impl.Edge) bool { return e.A == n && e.B == m || e.B == n && e.A == m }) {
			near = append(near, m)
		}
	}
	return near
}

// wildNumbers are of no use as a label nor as Num, many of them only if they
// are looked at whole.
var wildNumbers = append([]int{41, 42, 63, 64, 104, 1 << 58, 1 << 62, -40, -64}, noLabels...)

// randomOp keeps to few nodes, so that what is done meets what is there; one
// in some is wrong.
func randomOp(r *rand.Rand) impl.Op {
	some := func() impl.Node { return nodeOf(r.Intn(8), []int{0, 1, 2, 3, 20, 39, 40}[r.Intn(7)]) }
	op := impl.Op{Kind: 1 + r.Intn(4)}
	if op.Kind == 1 || op.Kind == 4 {
		op.Node = some()
	} else {
		a, b := some(), some()
		if compareNodes(a, b) > 0 && r.Intn(20) > 0 {
			a, b = b, a
		}
		op.Edge = edgeOf(impl.LabelJoin(a.Label, b.Label)|r.Intn(8)&r.Intn(8), a, b)
	}
	switch r.Intn(40) {
	case 0:
		op.Kind = []int{0, 5, -1, 1 << 32, 3 + 1<<32, 2, 1}[r.Intn(7)]
	case 1:
		op.Node = some()
	case 2:
		op.Edge.Label = r.Intn(9)
	case 3:
		op.Node.Num = wildNumbers[r.Intn(len(wildNumbers))]
	}
	return op
}

// edgeAmong joins two nodes of a graph, so that many edges come to be.
func edgeAmong(r *rand.Rand, g impl.Graph) impl.Op {
	if len(g.Nodes) < 2 {
		return randomOp(r)
	}
	i, j := r.Intn(len(g.Nodes)), r.Intn(len(g.Nodes))
	if i > j {
		i, j = j, i
	}
	a, b := g.Nodes[i], g.Nodes[j]
	return putEdge(edgeOf(impl.LabelJoin(a.Label, b.Label)|r.Intn(8)&r.Intn(8), a, b))
}

// randomGraph is made with the tests' own words alone.
func randomGraph(r *rand.Rand) impl.Graph {
	g := impl.Graph{}
	labels := 1 + r.Intn(8)
	for range r.Intn(40) {
		g, _ = doWanted(g, putNode(nodeOf(r.Intn(labels), []int{0, 1, 2, 3, 20, 39, 40}[r.Intn(7)])))
	}
	for range r.Intn(90) {
		g, _ = doWanted(g, edgeAmong(r, g))
	}
	return g
}

// fullGraph has as many nodes and as many edges of each label as there may be.
func fullGraph() impl.Graph {
	g := impl.Graph{}
	for label := range labelNames {
		for _, num := range []int{0, 7, 13, 39, 40} {
			g.Nodes = append(g.Nodes, nodeOf(label, num))
		}
	}
	for label := range labelNames {
		of := g.Nodes[5*label : 5*label+5]
		for _, pair := range [][2]int{{0, 1}, {0, 2}, {0, 3}, {0, 4}, {1, 2}, {2, 3}, {3, 4}} {
			g.Edges = append(g.Edges, edgeOf(label, of[pair[0]], of[pair[1]]))
		}
	}
	return g
}

func smallGraph() impl.Graph {
	z, o, a, b, c := nodeOf(0, 0), nodeOf(0, 40), nodeOf(1, 3), nodeOf(2, 3), nodeOf(4, 0)
	return impl.Graph{
		Nodes: []impl.Node{z, o, a, b, c},
		Edges: []impl.Edge{edgeOf(0, z, o), edgeOf(1, z, o), edgeOf(1, z, a), edgeOf(3, z, a), edgeOf(3, a, b), edgeOf(7, z, o), edgeOf(7, b, c)},
	}
}

func graphsToTry() []impl.Graph {
	list := []impl.Graph{{}, {Nodes: []impl.Node{}, Edges: []impl.Edge{}}, smallGraph(), fullGraph()}
	r := rand.New(rand.NewSource(2))
	for range 60 {
		list = append(list, randomGraph(r))
	}
	return list
}

// brokenGraphs are each wrong in one thing.
func brokenGraphs() []impl.Graph {
	n, e := smallGraph().Nodes, smallGraph().Edges
	z, o, a := n[0], n[1], n[2]
	list := []impl.Graph{
		{Nodes: []impl.Node{o, z}},
		{Nodes: []impl.Node{a, o}},
		{Nodes: []impl.Node{z, z}},
		{Nodes: []impl.Node{z, a, o, a}},
		{Nodes: []impl.Node{nodeOf(3, 1), nodeOf(3, 0)}},
		{Edges: []impl.Edge{e[0]}},
		{Nodes: []impl.Node{z}, Edges: []impl.Edge{e[0]}},
		{Nodes: []impl.Node{o}, Edges: []impl.Edge{e[0]}},
		{Nodes: []impl.Node{z, nodeOf(0, 39)}, Edges: []impl.Edge{e[0]}},
		{Nodes: []impl.Node{nodeOf(0, 1), o}, Edges: []impl.Edge{e[0]}},
		{Nodes: n, Edges: []impl.Edge{e[0], e[0]}},
		{Nodes: n, Edges: []impl.Edge{e[1], e[0]}},
		{Nodes: n, Edges: []impl.Edge{e[2], e[1]}},
		{Nodes: n, Edges: []impl.Edge{edgeOf(7, o, a), edgeOf(7, z, a)}},
		{Nodes: n, Edges: []impl.Edge{edgeOf(0, o, z)}},
		{Nodes: n, Edges: []impl.Edge{edgeOf(0, z, z)}},
		{Nodes: n, Edges: []impl.Edge{edgeOf(0, z, a)}},
		{Nodes: n, Edges: []impl.Edge{edgeOf(2, z, a)}},
		{Nodes: n, Edges: []impl.Edge{edgeOf(8, z, a)}},
		{Nodes: n, Edges: []impl.Edge{edgeOf(-1, z, o)}},
		{Nodes: n, Edges: []impl.Edge{{}}},
	}
	for _, wild := range wildNumbers {
		if !isLabel(wild) {
			list = append(list, impl.Graph{Nodes: []impl.Node{nodeOf(wild, 0)}}, impl.Graph{Nodes: n, Edges: []impl.Edge{edgeOf(wild, z, o)}})
		}
		if wild < 0 || wild > 40 {
			list = append(list, impl.Graph{Nodes: []impl.Node{nodeOf(0, wild)}}, impl.Graph{Nodes: []impl.Node{nodeOf(0, 0), nodeOf(7, wild)}})
		}
	}
	full := fullGraph()
	for label := range labelNames {
		more := copyGraph(full)
		more.Nodes = append(more.Nodes, nodeOf(label, 9))
		slices.SortFunc(more.Nodes, compareNodes)
		edgy := copyGraph(full)
		edgy.Edges = append(edgy.Edges, edgeOf(label, nodeOf(label, 7), nodeOf(label, 40)))
		slices.SortFunc(edgy.Edges, compareEdges)
		list = append(list, more, edgy)
	}
	return list
}

func TestGraphBounds(t *testing.T) {
	if impl.NumMost != 40 || impl.ClassNodes != 5 || impl.ClassEdges != 7 {
		t.Error("bounds")
	}
	if impl.OpNode != 1 || impl.OpEdge != 2 || impl.OpCut != 3 || impl.OpGone != 4 {
		t.Error("kinds")
	}
	if impl.GoFine != 0 || impl.GoForm != 1 || impl.GoThere != 2 || impl.GoNone != 3 || impl.GoFull != 4 {
		t.Error("codes")
	}
}

func TestNodeOkAndCode(t *testing.T) {
	numbers := append([]int{}, wildNumbers...)
	for i := -3; i <= 70; i++ {
		numbers = append(numbers, i)
	}
	for _, label := range numbers {
		for _, num := range numbers {
			n, code := nodeOf(label, num), -1
			if nodeWanted(n) {
				code = 64*label + num
			}
			if impl.NodeOk(n) != nodeWanted(n) || impl.NodeCode(n) != code {
				t.Error(n, impl.NodeOk(n), impl.NodeCode(n))
			}
		}
	}
	if impl.NodeCode(nodeOf(7, 40)) != 488 || impl.NodeCode(impl.Node{}) != 0 {
		t.Error("ends")
	}
}

func TestEdgeOk(t *testing.T) {
	var nodes []impl.Node
	for label := -1; label <= 8; label++ {
		for _, num := range []int{-1, 0, 1, 40, 41} {
			nodes = append(nodes, nodeOf(label, num))
		}
	}
	for _, a := range nodes {
		for _, b := range nodes {
			for label := -1; label <= 8; label++ {
				if e := edgeOf(label, a, b); impl.EdgeOk(e) != edgeWanted(e) {
					t.Error(e)
				}
			}
		}
	}
	for _, wild := range wildNumbers {
		z, o := nodeOf(0, 0), nodeOf(0, 40)
		for _, e := range []impl.Edge{edgeOf(wild, z, o), edgeOf(7, z, nodeOf(wild, 0)), edgeOf(7, nodeOf(wild, 0), o), edgeOf(7, z, nodeOf(0, wild)), edgeOf(7, nodeOf(0, wild), o)} {
			if impl.EdgeOk(e) != edgeWanted(e) {
				t.Error(e)
			}
		}
	}
}

func TestGraphOkOfGraphs(t *testing.T) {
	for i, g := range graphsToTry() {
		if !graphWanted(g) || !impl.GraphOk(g) {
			t.Error(i, g)
		}
	}
}

func TestGraphOkOfBroken(t *testing.T) {
	for i, g := range brokenGraphs() {
		if graphWanted(g) || impl.GraphOk(g) {
			t.Error(i, g)
		}
	}
}

// TestGraphOkOfTurned turns one thing of a graph, of which most break it.
func TestGraphOkOfTurned(t *testing.T) {
	r := rand.New(rand.NewSource(3))
	ok := 0
	for range 3000 {
		g := randomGraph(r)
		if len(g.Nodes) > 1 && r.Intn(2) == 0 {
			i, j := r.Intn(len(g.Nodes)), r.Intn(len(g.Nodes))
			switch r.Intn(4) {
			case 0:
				g.Nodes[i] = g.Nodes[j]
			case 1:
				g.Nodes[i], g.Nodes[j] = g.Nodes[j], g.Nodes[i]
			case 2:
				g.Nodes = slices.Delete(g.Nodes, i, i+1)
			case 3:
				g.Nodes[i].Num += r.Intn(5) - 2
			}
		} else if len(g.Edges) > 1 {
			i, j := r.Intn(len(g.Edges)), r.Intn(len(g.Edges))
			switch r.Intn(4) {
			case 0:
				g.Edges[i], g.Edges[j] = g.Edges[j], g.Edges[i]
			case 1:
				g.Edges = slices.Insert(g.Edges, i, g.Edges[j])
			case 2:
				g.Edges[i].Label = r.Intn(8)
			case 3:
				g.Edges[i].A = g.Edges[j].A
			}
		}
		if impl.GraphOk(g) != graphWanted(g) {
			t.Fatal(g)
		}
		if graphWanted(g) {
			ok++
		}
	}
	if ok == 0 || ok == 3000 {
		t.Error(ok)
	}
}

func TestGraphSame(t *testing.T) {
	none, empty := impl.Graph{}, impl.Graph{Nodes: []impl.Node{}, Edges: []impl.Edge{}}
	if !impl.GraphSame(none, empty) || !impl.GraphSame(empty, none) || !impl.GraphSame(none, none) {
		t.Error("nothing")
	}
	all := append(graphsToTry(), brokenGraphs()...)
	for i, a := range all {
		if !impl.GraphSame(a, copyGraph(a)) {
			t.Error(i)
		}
		for j, b := range all {
			if impl.GraphSame(a, b) != sameGraph(a, b) {
				t.Error(i, j)
			}
		}
	}
}

func TestGraphSameLooksAtEveryPart(t *testing.T) {
	a := smallGraph()
	for i, turn := range []func(g *impl.Graph){
		func(g *impl.Graph) { g.Nodes[4].Label = 5 },
		func(g *impl.Graph) { g.Nodes[0].Num = 1 },
		func(g *impl.Graph) { g.Nodes = g.Nodes[:4] },
		func(g *impl.Graph) { g.Nodes = nil },
		func(g *impl.Graph) { g.Edges[6].Label = 6 },
		func(g *impl.Graph) { g.Edges[0].A.Num = 1 },
		func(g *impl.Graph) { g.Edges[0].A.Label = 1 },
		func(g *impl.Graph) { g.Edges[6].B.Num = 1 },
		func(g *impl.Graph) { g.Edges[6].B.Label = -1 },
		func(g *impl.Graph) { g.Edges = g.Edges[1:] },
		func(g *impl.Graph) { g.Edges = nil },
		func(g *impl.Graph) { g.Nodes = append(g.Nodes, impl.Node{}) },
		func(g *impl.Graph) { g.Edges = append(g.Edges, impl.Edge{}) },
	} {
		b := smallGraph()
		turn(&b)
		if impl.GraphSame(a, b) || impl.GraphSame(b, a) || !impl.GraphSame(b, b) {
			t.Error(i)
		}
	}
}

func TestOpLabel(t *testing.T) {
	n, e := nodeOf(5, 40), edgeOf(6, nodeOf(2, 0), nodeOf(4, 0))
	kinds := append([]int{0, 1, 2, 3, 4, 5, 6}, wildNumbers...)
	for _, kind := range kinds {
		for _, node := range []impl.Node{{}, n, nodeOf(0, 1), nodeOf(0, 41), nodeOf(8, 0), nodeOf(-1, 0), nodeOf(0, -1), nodeOf(1, 0)} {
			for _, edge := range []impl.Edge{{}, e, edgeOf(1, impl.Node{}, impl.Node{}), edgeOf(0, impl.Node{}, nodeOf(0, 1)), edgeOf(4, e.A, e.B), edgeOf(6, e.B, e.A), edgeOf(14, e.A, e.B), edgeOf(6, nodeOf(2, 41), e.B)} {
				op := impl.Op{Kind: kind, Node: node, Edge: edge}
				if got := impl.OpLabel(op); got != opLabelWanted(op) {
					t.Error(op, got)
				}
			}
		}
	}
	if impl.OpLabel(putNode(n)) != 5 || impl.OpLabel(goneNode(n)) != 5 || impl.OpLabel(putEdge(e)) != 6 || impl.OpLabel(cutEdge(e)) != 6 {
		t.Error("labels")
	}
	if impl.OpLabel(putNode(impl.Node{})) != 0 || impl.OpLabel(impl.Op{}) != -1 || impl.OpLabel(putEdge(impl.Edge{})) != -1 {
		t.Error("nothing")
	}
}

func wantDo(t *testing.T, g impl.Graph, op impl.Op) impl.Graph {
	t.Helper()
	h, code := impl.GraphDo(g, op)
	want, wantCode := doWanted(g, op)
	if code != wantCode || !sameGraph(h, want) {
		t.Fatalf("%v of %v: %v, %d, not %v, %d", op, g, h, code, want, wantCode)
	}
	return h
}

func TestGraphDoLongRuns(t *testing.T) {
	r := rand.New(rand.NewSource(4))
	met := map[int]int{}
	for range 200 {
		g := impl.Graph{}
		if r.Intn(2) == 0 {
			g = randomGraph(r)
		}
		for range 60 {
			op := randomOp(r)
			if r.Intn(3) == 0 {
				op = edgeAmong(r, g)
			}
			_, code := doWanted(g, op)
			met[code*10+op.Kind]++
			g = wantDo(t, g, op)
		}
	}
	for _, way := range []int{1, 2, 3, 4, 21, 22, 32, 33, 34, 41, 42} {
		if met[way] == 0 {
			t.Error("never met", way)
		}
	}
}

func TestGraphDoOfBroken(t *testing.T) {
	for i, g := range brokenGraphs() {
		for _, op := range []impl.Op{putNode(nodeOf(6, 6)), goneNode(nodeOf(0, 0)), putEdge(edgeOf(7, nodeOf(0, 0), nodeOf(0, 40))), cutEdge(edgeOf(0, nodeOf(0, 0), nodeOf(0, 40))), {}, {Kind: 9}} {
			h, code := impl.GraphDo(g, op)
			if code != impl.GoForm || len(h.Nodes) != 0 || len(h.Edges) != 0 {
				t.Error(i, op, h, code)
			}
		}
	}
}

func TestGraphDoWrongOps(t *testing.T) {
	n, e := nodeOf(5, 2), edgeOf(7, nodeOf(0, 0), nodeOf(0, 40))
	for _, g := range []impl.Graph{{}, smallGraph(), fullGraph()} {
		for _, op := range []impl.Op{
			{}, {Kind: 5, Node: n}, {Kind: -1, Node: n}, {Kind: 1 + 1<<32, Node: n}, {Kind: 257, Node: n},
			{Kind: 1, Node: n, Edge: e}, {Kind: 4, Node: nodeOf(0, 0), Edge: e}, {Kind: 2, Node: n, Edge: e}, {Kind: 3, Node: n, Edge: edgeOf(0, e.A, e.B)},
			putNode(nodeOf(0, 41)), putNode(nodeOf(8, 0)), putNode(nodeOf(math.MinInt, math.MaxInt)), goneNode(nodeOf(-1, 0)), goneNode(nodeOf(0, -1)),
			putEdge(edgeOf(7, e.B, e.A)), putEdge(edgeOf(7, e.A, e.A)), putEdge(edgeOf(8, e.A, e.B)), putEdge(edgeOf(0, e.A, nodeOf(1, 3))), cutEdge(edgeOf(0, e.B, e.A)), cutEdge(impl.Edge{}),
			{Kind: 2, Node: nodeOf(0, 1), Edge: e}, {Kind: 1, Node: n, Edge: edgeOf(0, impl.Node{}, nodeOf(0, 1))},
		} {
			h, code := impl.GraphDo(g, op)
			if code != impl.GoForm || !sameGraph(h, g) {
				t.Error(op, h, code)
			}
		}
	}
}

// TestGraphDoFirstCode meets two reasons at once: the first one is told.
func TestGraphDoFirstCode(t *testing.T) {
	full := fullGraph()
	for label := range labelNames {
		at := func(num int) impl.Node { return nodeOf(label, num) }
		for i, c := range []struct {
			op   impl.Op
			code int
		}{
			{putNode(at(7)), impl.GoThere},
			{putNode(at(8)), impl.GoFull},
			{putEdge(edgeOf(label, at(0), at(7))), impl.GoThere},
			{putEdge(edgeOf(label, at(0), at(8))), impl.GoNone},
			{putEdge(edgeOf(label, at(1), at(7))), impl.GoNone},
			{putEdge(edgeOf(label, at(7), at(40))), impl.GoFull},
			{cutEdge(edgeOf(label, at(7), at(40))), impl.GoNone},
			{goneNode(at(8)), impl.GoNone},
			{goneNode(at(0)), impl.GoFine},
			{cutEdge(edgeOf(label, at(0), at(7))), impl.GoFine},
		} {
			if _, code := impl.GraphDo(full, c.op); code != c.code {
				t.Error(label, i, code)
			}
			wantDo(t, full, c.op)
		}
	}
}

// TestGraphFullIsOfOneLabel fills one label, and finds room in all others, and
// again in that one when something of it is gone.
func TestGraphFullIsOfOneLabel(t *testing.T) {
	for label := range labelNames {
		g := impl.Graph{}
		for num := range 5 {
			g = wantDo(t, g, putNode(nodeOf(label, num)))
		}
		for other := range labelNames {
			_, code := impl.GraphDo(g, putNode(nodeOf(other, 40)))
			if (code == impl.GoFull) != (other == label) {
				t.Error(label, other, code)
			}
		}
		g = wantDo(t, g, goneNode(nodeOf(label, 2)))
		if _, code := impl.GraphDo(g, putNode(nodeOf(label, 40))); code != impl.GoFine {
			t.Error(label, code)
		}
	}
}

func TestGraphFullEdgesAreOfOneLabel(t *testing.T) {
	g := impl.Graph{}
	for num := range 5 {
		g = wantDo(t, g, putNode(nodeOf(0, num)))
	}
	var pairs []impl.Edge
	for b := range 5 {
		for a := range b {
			pairs = append(pairs, edgeOf(0, nodeOf(0, a), nodeOf(0, b)))
		}
	}
	for label := range labelNames {
		for i, e := range pairs {
			e.Label = label
			h, code := impl.GraphDo(g, putEdge(e))
			if (i < 7) != (code == impl.GoFine) || (i >= 7) != (code == impl.GoFull) {
				t.Error(label, i, code)
			}
			g = h
		}
	}
	if len(g.Edges) != 56 || !impl.GraphOk(g) {
		t.Error(g)
	}
	h := wantDo(t, g, goneNode(nodeOf(0, 0)))
	for label := range labelNames {
		if countEdges(h, label) != 3 {
			t.Error(label, h.Edges)
		}
		if _, code := impl.GraphDo(h, putEdge(edgeOf(label, nodeOf(0, 2), nodeOf(0, 4)))); code != impl.GoFine {
			t.Error(label, code)
		}
	}
}

// TestGraphTwoEdges: of two edges between the same two nodes one may go and
// the other one stays, and what is near is near once.
func TestGraphTwoEdges(t *testing.T) {
	z, o := nodeOf(0, 0), nodeOf(0, 40)
	g := impl.Graph{Nodes: []impl.Node{z, o}, Edges: []impl.Edge{edgeOf(0, z, o), edgeOf(5, z, o)}}
	if l := impl.GraphNear(g, z); !slices.Equal(l, []impl.Node{o}) {
		t.Error(l)
	}
	h, code := impl.GraphDo(g, cutEdge(edgeOf(0, z, o)))
	if code != impl.GoFine || !slices.Equal(h.Edges, g.Edges[1:]) || len(impl.GraphNear(h, o)) != 1 || len(impl.GraphNear(impl.GraphView(h, 4), o)) != 0 {
		t.Error(h, code)
	}
	h, code = impl.GraphDo(h, cutEdge(edgeOf(0, z, o)))
	if code != impl.GoNone || len(h.Edges) != 1 {
		t.Error(h, code)
	}
	h, code = impl.GraphDo(g, goneNode(o))
	if code != impl.GoFine || len(h.Edges) != 0 || !slices.Equal(h.Nodes, []impl.Node{z}) {
		t.Error(h, code)
	}
}

func TestGraphView(t *testing.T) {
	for i, g := range append(graphsToTry(), brokenGraphs()...) {
		for clear := -2; clear <= 9; clear++ {
			if v := impl.GraphView(g, clear); !sameGraph(v, viewWanted(g, clear)) {
				t.Error(i, clear, v)
			}
		}
		for _, clear := range noLabels {
			if v := impl.GraphView(g, clear); len(v.Nodes) != 0 || len(v.Edges) != 0 {
				t.Error(i, clear, v)
			}
		}
	}
	g := smallGraph()
	if v := impl.GraphView(g, 0); len(v.Nodes) != 2 || len(v.Edges) != 1 {
		t.Error(v)
	}
	if v := impl.GraphView(g, 7); !impl.GraphSame(v, g) {
		t.Error(v)
	}
}

// TestGraphSeenIsGraph is promise 2: what is seen is a graph; what is done to
// what is not seen turns nothing of it; and what is done to what is seen ends
// as it would if there were nothing else.
func TestGraphSeenIsGraph(t *testing.T) {
	r := rand.New(rand.NewSource(5))
	unseen, seen := 0, 0
	for i, g := range graphsToTry() {
		for range 60 {
			op := randomOp(r)
			if r.Intn(3) == 0 {
				op = edgeAmong(r, g)
			}
			h, code := impl.GraphDo(g, op)
			for clear := range labelNames {
				before, after := impl.GraphView(g, clear), impl.GraphView(h, clear)
				if !impl.GraphOk(before) || !impl.GraphOk(after) {
					t.Fatal(i, clear, op)
				}
				if !seenWith(impl.OpLabel(op), clear) {
					unseen++
					if !impl.GraphSame(before, after) {
						t.Fatal(i, clear, op)
					}
					continue
				}
				seen++
				alone, aloneCode := impl.GraphDo(before, op)
				if aloneCode != code || !impl.GraphSame(alone, after) {
					t.Fatal(i, clear, op, code, aloneCode)
				}
			}
		}
	}
	if unseen == 0 || seen == 0 {
		t.Error(unseen, seen)
	}
}

func TestGraphViewOfView(t *testing.T) {
	for i, g := range graphsToTry() {
		for a := range labelNames {
			for b := range labelNames {
				if !impl.GraphSame(impl.GraphView(impl.GraphView(g, a), b), impl.GraphView(g, impl.LabelMeet(a, b))) {
					t.Error(i, a, b)
				}
			}
		}
	}
}

func TestGraphNear(t *testing.T) {
	for i, g := range append(graphsToTry(), brokenGraphs()...) {
		asked := append([]impl.Node{{}, nodeOf(0, 41), nodeOf(-1, 0), nodeOf(8, 0), nodeOf(math.MaxInt, math.MinInt), nodeOf(6, 33)}, g.Nodes...)
		for _, n := range asked {
			if l := impl.GraphNear(g, n); !slices.Equal(l, nearWanted(g, n)) {
				t.Error(i, n, l)
			}
		}
	}
	if l := impl.GraphNear(smallGraph(), nodeOf(0, 0)); !slices.Equal(l, []impl.Node{nodeOf(0, 40), nodeOf(1, 3)}) {
		t.Error(l)
	}
}

// roomy is a graph with room behind both its lists that something stands in.
func roomy(g impl.Graph) (impl.Graph, impl.Graph) {
	n := append(slices.Clone(g.Nodes), nodeOf(-5, -5), nodeOf(-6, -6))
	e := append(slices.Clone(g.Edges), edgeOf(-5, nodeOf(-5, -5), nodeOf(-5, -5)), edgeOf(-6, nodeOf(0, 0), nodeOf(0, 0)))
	return impl.Graph{Nodes: n[:len(g.Nodes)], Edges: e[:len(g.Edges)]}, impl.Graph{Nodes: n, Edges: e}
}

func scribbleNodes(list []impl.Node) {
	for i := range list[:cap(list)] {
		list[:cap(list)][i] = nodeOf(-9, -9)
	}
}

func scribbleGraph(g impl.Graph) {
	scribbleNodes(g.Nodes)
	for i := range g.Edges[:cap(g.Edges)] {
		g.Edges[:cap(g.Edges)][i] = edgeOf(-9, nodeOf(-9, -9), nodeOf(-9, -9))
	}
}

func TestGraphAnswersAreNewMemory(t *testing.T) {
	z, o := nodeOf(0, 0), nodeOf(0, 40)
	ops := []impl.Op{{}, putNode(nodeOf(0, 1)), putNode(z), goneNode(z), goneNode(nodeOf(6, 6)), putEdge(edgeOf(4, z, o)), cutEdge(edgeOf(0, z, o)), cutEdge(edgeOf(7, z, o)), cutEdge(edgeOf(5, z, o))}
	for i, plain := range append(graphsToTry(), brokenGraphs()...) {
		g, whole := roomy(plain)
		kept := copyGraph(whole)
		hold := func(name string) {
			if !sameGraph(whole, kept) || !sameGraph(g, plain) {
				t.Fatal(i, name)
			}
		}
		impl.GraphOk(g)
		impl.GraphSame(g, g)
		hold("asked")
		for _, op := range ops {
			h, code := impl.GraphDo(g, op)
			hold("done")
			scribbleGraph(h)
			hold("do")
			if again, c := impl.GraphDo(g, op); c != code || slices.Contains(again.Nodes, nodeOf(-9, -9)) {
				t.Fatal(i, op)
			}
		}
		for clear := range labelNames {
			scribbleGraph(impl.GraphView(g, clear))
			hold("view")
		}
		for _, n := range plain.Nodes {
			scribbleNodes(impl.GraphNear(g, n))
			hold("near")
		}
	}
}
