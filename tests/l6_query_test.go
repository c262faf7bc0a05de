package tests

import (
	"fmt"
	"math"
	"math/rand"
	"slices"
	"testing"

	"loop.example/hagioscope/impl"
)

func queryOf(kind int, n impl.Node) impl.Query { return impl.Query{Kind: kind, Node: n} }

func nearOf(n impl.Node) impl.Query { return queryOf(impl.QueryNear, n) }
func distOf(n impl.Node) impl.Query { return queryOf(impl.QueryDist, n) }

var (
	coreOf   = impl.Query{Kind: impl.QueryCore}
	threesOf = impl.Query{Kind: impl.QueryThrees}
)

// The tests' own words for chapter 6 follow: answers are looked up in tables of
// what is seen, the nodes that are reached are taken ring by ring, and where a
// row lies is told by the sizes of all that stands ahead of it, not by reading.

func queryWanted(q impl.Query) bool {
	switch q.Kind {
	case 1, 2:
		return nodeWanted(q.Node)
	case 3, 4:
		return q.Node.Label == 0 && q.Node.Num == 0
	}
	return false
}

// lay is where the bytes of a label have what: where the numbers of its nodes
// end, and from where to where the row of each node goes.
type lay struct {
	label   int
	numsEnd int
	rows    map[impl.Node][2]int
}

func layOf(g impl.Graph, label int) lay {
	var nums []int
	for _, n := range g.Nodes {
		if n.Label == label {
			nums = append(nums, n.Num)
		}
	}
	l := lay{label, len(rowTextWanted(nums)), map[impl.Node][2]int{}}
	at := l.numsEnd + 1
	for _, n := range g.Nodes {
		var ends []int
		for _, e := range g.Edges {
			if e.Label == label && e.A == n {
				ends = append(ends, codeOfNode(e.B))
			}
			if e.Label == label && e.B == n {
				ends = append(ends, codeOfNode(e.A))
			}
		}
		slices.Sort(ends)
		if size := len(numTexts[codeOfNode(n)]) + len(rowTextWanted(ends)); len(ends) > 0 {
			l.rows[n] = [2]int{at, at + size}
			at += size
		}
	}
	return l
}

// part is what one sees of a graph, in tables.
type part struct {
	graph impl.Graph
	near  [][]bool
	far   [][]int
	lays  []lay
}

func partOf(g impl.Graph, clear int) part {
	p := part{graph: viewWanted(g, clear)}
	p.near = nearTable(p.graph)
	p.far = farTable(p.near)
	for label := range labelNames {
		if countNodes(p.graph, label)+countEdges(p.graph, label) > 0 {
			p.lays = append(p.lays, layOf(p.graph, label))
		}
	}
	return p
}

func (p part) answer(q impl.Query) []int {
	place := slices.Index(p.graph.Nodes, q.Node)
	switch {
	case q.Kind == 3:
		return coreWanted(p.near)
	case q.Kind == 4:
		return []int{threesWanted(p.near)}
	case place < 0:
		return nil
	case q.Kind == 2:
		return p.far[place]
	}
	var codes []int
	for i, near := range p.near[place] {
		if near {
			codes = append(codes, codeOfNode(p.graph.Nodes[i]))
		}
	}
	return codes
}

// rings has the nodes that can be reached from one: itself, then those that are
// one step off, then those that are two, each ring in the order in which the
// one ahead of it comes to them.
func (p part) rings(from int) []impl.Node {
	var nodes []impl.Node
	ring := []int{from}
	for steps := 1; len(ring) > 0; steps++ {
		var next []int
		for _, i := range ring {
			nodes = append(nodes, p.graph.Nodes[i])
			for j := range p.near {
				if p.near[i][j] && p.far[from][j] == steps && !slices.Contains(next, j) {
					next = append(next, j)
				}
			}
		}
		ring = next
	}
	return nodes
}

func (p part) nodesRead(q impl.Query) []impl.Node {
	switch place := slices.Index(p.graph.Nodes, q.Node); {
	case q.Kind >= 3:
		return p.graph.Nodes
	case place < 0:
		return nil
	case q.Kind == 2:
		return p.rings(place)
	}
	return []impl.Node{q.Node}
}

func (p part) pages(q impl.Query) []impl.Page {
	var pages []impl.Page
	for _, l := range p.lays {
		pages = append(pages, spanWanted(l.label, 0, l.numsEnd)...)
	}
	for _, n := range p.nodesRead(q) {
		for _, l := range p.lays {
			if row, ok := l.rows[n]; ok {
				pages = append(pages, spanWanted(l.label, row[0], row[1])...)
			}
		}
	}
	return pages
}

// told is all that QueryRun answers, as a text.
func told(answer []int, after impl.Pool, reads int) string {
	return fmt.Sprint(len(answer), answer, after.Size, len(after.List), after.List, reads)
}

var toldNothing = told(nil, impl.Pool{}, 0)

func runTold(store []impl.Seg, clear int, pool impl.Pool, q impl.Query) string {
	return told(impl.QueryRun(store, clear, pool, q))
}

func (p part) told(pool impl.Pool, q impl.Query) string {
	if !poolWanted(pool) || !queryWanted(q) {
		return toldNothing
	}
	after, reads := allWanted(pool, p.pages(q))
	return told(p.answer(q), after, reads)
}

// wantQuery holds what is answered of a graph's store against the words above.
func wantQuery(t *testing.T, p part, store []impl.Seg, clear int, pool impl.Pool, q impl.Query) {
	t.Helper()
	var pages []impl.Page
	if queryWanted(q) {
		pages = p.pages(q)
	}
	if got := impl.QueryPages(store, clear, q); !slices.Equal(got, pages) {
		t.Fatalf("pages for %v with %d of %s: %v, not %v", q, clear, storeText(store), got, pages)
	}
	if got, want := runTold(store, clear, pool, q), p.told(pool, q); got != want {
		t.Fatalf("%v with %d and %v of %s: %s, not %s", q, clear, pool, storeText(store), got, want)
	}
}

// wantNoQuery: nothing at all is told.
func wantNoQuery(t *testing.T, store []impl.Seg, clear int, pool impl.Pool, q impl.Query) {
	t.Helper()
	if got := impl.QueryPages(store, clear, q); len(got) != 0 {
		t.Fatalf("pages for %v with %d of %s: %v", q, clear, storeText(store), got)
	}
	if got := runTold(store, clear, pool, q); got != toldNothing {
		t.Fatalf("%v with %d and %v of %s: %s", q, clear, pool, storeText(store), got)
	}
}

// poolsToAsk are small enough that pages go, and great enough that some stay.
var poolsToAsk = []impl.Pool{
	{}, {Size: 1}, {Size: 2, List: []impl.Page{pageOf(0, 0)}}, {Size: 5, List: []impl.Page{pageOf(7, 1), pageOf(0, 1), pageOf(1, 0)}},
	{Size: 12}, {Size: 12, List: rowOfPages(12)}, {Size: 4, List: []impl.Page{pageOf(3, 500), pageOf(3, 0), pageOf(7, 999)}},
}

// queriesOf asks everything of every node, and of some that are not there.
func queriesOf(g impl.Graph) []impl.Query {
	list := []impl.Query{coreOf, threesOf}
	for _, n := range slices.Concat(g.Nodes, []impl.Node{nodeOf(0, 33), nodeOf(5, 34), nodeOf(7, 35)}) {
		list = append(list, nearOf(n), distOf(n))
	}
	return list
}

// someQueries has the first ones, and others by chance.
func someQueries(r *rand.Rand, g impl.Graph, count int) []impl.Query {
	all := queriesOf(g)
	list := slices.Clone(all[:2])
	for range count {
		list = append(list, all[r.Intn(len(all))])
	}
	return list
}

// wrongQueries are each wrong in one thing.
func wrongQueries() []impl.Query {
	list := []impl.Query{{}, queryOf(0, nodeOf(0, 1)), queryOf(5, nodeOf(0, 0))}
	for _, kind := range []int{0, -1, -2, -3, -4, 5, 6, 8, 257, 260, 1 << 16, 1<<16 + 1, 1<<32 + 1, 1<<32 + 3, -1<<32 + 4, math.MaxInt, math.MinInt, math.MinInt + 1, math.MinInt + 4} {
		list = append(list, queryOf(kind, nodeOf(0, 0)), queryOf(kind, nodeOf(1, 3)))
	}
	for _, wild := range wildNumbers {
		for kind := 1; kind <= 4; kind++ {
			if !isLabel(wild) {
				list = append(list, queryOf(kind, nodeOf(wild, 0)), queryOf(kind, nodeOf(wild, 40)))
			}
			if wild < 0 || wild > 40 {
				list = append(list, queryOf(kind, nodeOf(0, wild)), queryOf(kind, nodeOf(7, wild)))
			}
		}
	}
	for _, n := range []impl.Node{nodeOf(0, 1), nodeOf(1, 0), nodeOf(0, 40), nodeOf(7, 0), nodeOf(7, 40)} {
		list = append(list, queryOf(3, n), queryOf(4, n))
	}
	return list
}

func TestQueryKinds(t *testing.T) {
	if impl.QueryNear != 1 || impl.QueryDist != 2 || impl.QueryCore != 3 || impl.QueryThrees != 4 {
		t.Error("kinds")
	}
}

func TestQueryOk(t *testing.T) {
	for kind := -2; kind <= 7; kind++ {
		for label := -2; label <= 9; label++ {
			for num := -2; num <= 43; num++ {
				if q := queryOf(kind, nodeOf(label, num)); impl.QueryOk(q) != queryWanted(q) {
					t.Error(q)
				}
			}
		}
	}
	for _, q := range []impl.Query{nearOf(nodeOf(0, 0)), distOf(nodeOf(0, 0)), nearOf(nodeOf(7, 40)), distOf(nodeOf(7, 40)), coreOf, threesOf} {
		if !impl.QueryOk(q) {
			t.Error(q)
		}
	}
	for _, q := range wrongQueries() {
		if impl.QueryOk(q) || queryWanted(q) {
			t.Error(q)
		}
	}
}

func TestQueryAsk(t *testing.T) {
	for i, g := range append(graphsToTry()[:30], longGraph(), denseGraph()) {
		whole := partOf(g, 7)
		for _, q := range queriesOf(g) {
			if got := impl.QueryAsk(g, q); !slices.Equal(got, whole.answer(q)) {
				t.Fatal(i, q, got, whole.answer(q))
			}
		}
	}
}

func TestQueryAskWrittenOut(t *testing.T) {
	z, o, a, b, c := nodeOf(0, 0), nodeOf(0, 40), nodeOf(1, 3), nodeOf(2, 3), nodeOf(4, 0)
	g := smallGraph()
	for _, each := range []struct {
		q    impl.Query
		want []int
	}{
		{nearOf(z), []int{40, 67}}, {nearOf(o), []int{0}}, {nearOf(a), []int{0, 131}}, {nearOf(b), []int{67, 256}}, {nearOf(c), []int{131}},
		{distOf(z), []int{0, 1, 1, 2, 3}}, {distOf(c), []int{3, 4, 2, 1, 0}}, {coreOf, []int{1, 1, 1, 1, 1}}, {threesOf, []int{0}},
		{nearOf(nodeOf(3, 3)), nil}, {distOf(nodeOf(3, 3)), nil},
	} {
		if got := impl.QueryAsk(g, each.q); !slices.Equal(got, each.want) {
			t.Error(each.q, got)
		}
	}
}

// TestQueryAskOfNothing: a graph of nothing has no nodes and no threes, and a
// graph that is not ok has not even that number.
func TestQueryAskOfNothing(t *testing.T) {
	for _, g := range []impl.Graph{{}, {Nodes: []impl.Node{}, Edges: []impl.Edge{}}} {
		if l := impl.QueryAsk(g, threesOf); !slices.Equal(l, []int{0}) {
			t.Error(l)
		}
		for _, q := range []impl.Query{coreOf, nearOf(nodeOf(0, 0)), distOf(nodeOf(0, 0))} {
			if l := impl.QueryAsk(g, q); len(l) != 0 {
				t.Error(q, l)
			}
		}
	}
	for i, g := range brokenGraphs() {
		for _, q := range queriesOf(g) {
			if l := impl.QueryAsk(g, q); len(l) != 0 {
				t.Error(i, q, l)
			}
		}
	}
	for _, g := range []impl.Graph{{}, smallGraph(), fullGraph()} {
		for _, q := range wrongQueries() {
			if l := impl.QueryAsk(g, q); len(l) != 0 {
				t.Error(q, l)
			}
		}
	}
}

// TestQueryOfGraphs: every kind, of graphs of several labels, with every clear,
// and with pools that have some of what is read, all, or nothing.
func TestQueryOfGraphs(t *testing.T) {
	r := rand.New(rand.NewSource(31))
	over, ended := 0, 0
	for _, g := range graphsToPack() {
		store := storeWanted(g)
		for clear := range labelNames {
			p := partOf(g, clear)
			for _, q := range someQueries(r, g, 6) {
				wantQuery(t, p, store, clear, poolsToAsk[r.Intn(len(poolsToAsk))], q)
			}
			for _, l := range p.lays {
				for _, row := range l.rows {
					if row[0]/8 != (row[1]-1)/8 {
						over++
					}
					if row[1]%8 == 0 {
						ended++
					}
				}
			}
		}
	}
	if over < 100 || ended < 100 {
		t.Error(over, ended)
	}
}

// TestQueryOfEachNode asks everything there is to ask of some graphs.
func TestQueryOfEachNode(t *testing.T) {
	for _, g := range []impl.Graph{smallGraph(), denseGraph(), longGraph(), crowdedGraph(rand.New(rand.NewSource(32)))} {
		store := storeWanted(g)
		for clear := range labelNames {
			p := partOf(g, clear)
			for i, q := range queriesOf(g) {
				wantQuery(t, p, store, clear, poolsToAsk[i%len(poolsToAsk)], q)
			}
		}
	}
}

// TestQueryOfDocument is what the document's example of a script reads, pool by
// pool and one behind the other.
func TestQueryOfDocument(t *testing.T) {
	one, two, a, bc := nodeOf(0, 1), nodeOf(0, 2), nodeOf(1, 1), nodeOf(6, 5)
	early := impl.Graph{
		Nodes: []impl.Node{one, two, a, bc},
		Edges: []impl.Edge{edgeOf(1, one, a), edgeOf(1, two, a), edgeOf(7, a, bc)},
	}
	late, _ := doWanted(early, putEdge(edgeOf(0, one, two)))
	pools := []impl.Pool{{Size: 4}, {Size: 6}, {Size: 8}}
	clears := []int{0, 1, 7}
	for i, each := range []struct {
		g      impl.Graph
		who    int
		q      impl.Query
		reads  int
		answer []int
	}{
		{early, 0, distOf(one), 1, []int{0, -1}}, {early, 1, distOf(one), 3, []int{0, 2, 1}}, {late, 0, distOf(one), 1, []int{0, 1}},
		{late, 1, threesOf, 1, []int{1}}, {late, 2, coreOf, 7, []int{2, 2, 2, 1}}, {late, 0, threesOf, 0, []int{0}},
	} {
		answer, after, reads := impl.QueryRun(impl.StoreOf(each.g), clears[each.who], pools[each.who], each.q)
		if !slices.Equal(answer, each.answer) || reads != each.reads || after.Size != pools[each.who].Size {
			t.Error(i, answer, after, reads)
		}
		pools[each.who] = after
	}
}

func spanPages(spans ...[3]int) []impl.Page {
	var pages []impl.Page
	for _, s := range spans {
		for at := s[1]; at <= s[2]; at++ {
			pages = append(pages, pageOf(s[0], at))
		}
	}
	return pages
}

func wantPages(t *testing.T, g impl.Graph, clear int, q impl.Query, spans ...[3]int) {
	t.Helper()
	store := impl.StoreOf(g)
	if got, want := impl.QueryPages(store, clear, q), spanPages(spans...); !slices.Equal(got, want) {
		t.Errorf("%v with %d of %s: %v, not %v", q, clear, storeText(store), got, want)
	}
	wantQuery(t, partOf(g, clear), store, clear, impl.Pool{Size: 3}, q)
}

// TestQueryPagesAtEnds: the bytes are 03 00 00 00, 02, 00 01 01 from the place 5
// up to the end of the first page, and 01 01 00 from the place 8 on; with one
// edge more, 00 02 01 00 goes over that end.
func TestQueryPagesAtEnds(t *testing.T) {
	n := plainNodes(3)
	ends := impl.Graph{Nodes: n, Edges: []impl.Edge{edgeOf(0, n[0], n[1])}}
	over := impl.Graph{Nodes: n, Edges: []impl.Edge{edgeOf(0, n[0], n[1]), edgeOf(0, n[0], n[2])}}
	head := [3]int{0, 0, 0}
	first, second := head, [3]int{0, 1, 1}
	wantPages(t, ends, 0, nearOf(n[0]), head, first)
	wantPages(t, ends, 0, nearOf(n[1]), head, second)
	wantPages(t, ends, 0, nearOf(n[2]), head)
	wantPages(t, ends, 0, distOf(n[1]), head, second, first)
	wantPages(t, ends, 0, coreOf, head, first, second)
	wantPages(t, over, 0, nearOf(n[0]), head, [3]int{0, 0, 1})
	wantPages(t, over, 0, nearOf(n[2]), head, second)
	wantPages(t, over, 0, distOf(n[2]), head, second, [3]int{0, 0, 1}, second)
	wantPages(t, over, 0, threesOf, head, [3]int{0, 0, 1}, second, second)
}

// TestQueryPagesOfLongRow: a row of as many ends as there may be, over three
// pages: 01 00, 08, and from the place 3 on 00 07 and the gaps of 1, 2, 131,
// 261, 391, 393 and 448, three of which take two bytes, up to the place 15; the
// next rows begin behind it. With four more nodes it begins at the place 7.
func TestQueryPagesOfLongRow(t *testing.T) {
	hub := nodeOf(0, 0)
	g := impl.Graph{Nodes: []impl.Node{hub, nodeOf(0, 1), nodeOf(0, 2), nodeOf(2, 3), nodeOf(4, 5), nodeOf(6, 7), nodeOf(6, 9), nodeOf(7, 0)}}
	for _, n := range g.Nodes[1:] {
		g.Edges = append(g.Edges, edgeOf(7, hub, n))
	}
	heads := [][3]int{{0, 0, 0}, {2, 0, 0}, {4, 0, 0}, {6, 0, 0}, {7, 0, 0}}
	wantPages(t, g, 7, nearOf(hub), append(slices.Clone(heads), [3]int{7, 0, 1})...)
	for num := range 4 {
		g, _ = doWanted(g, putNode(nodeOf(7, 30+num)))
	}
	wantPages(t, g, 7, nearOf(hub), append(slices.Clone(heads), [3]int{7, 0, 2})...)
	wantPages(t, g, 7, nearOf(nodeOf(0, 1)), append(slices.Clone(heads), [3]int{7, 2, 2})...)
}

// TestQueryPagesOfSeveralLabels: of a node whose rows are in several labels each
// one is read that is seen, and of a node alone none.
func TestQueryPagesOfSeveralLabels(t *testing.T) {
	z, o, a, alone := nodeOf(0, 0), nodeOf(0, 1), nodeOf(1, 0), nodeOf(2, 9)
	g := impl.Graph{
		Nodes: []impl.Node{z, o, a, alone},
		Edges: []impl.Edge{edgeOf(0, z, o), edgeOf(1, z, o), edgeOf(1, z, a), edgeOf(4, z, o), edgeOf(7, z, a)},
	}
	// Label 0: 02 00 00 02, and rows of 3 bytes at 4 and 7. Label 1: 01 00 03, and
	// rows at 3 (of 4 bytes), 7 and 10. Labels 4 and 7: 00 02, rows at 2 and 5.
	h0, h1, h2, h4, h7 := [3]int{0, 0, 0}, [3]int{1, 0, 0}, [3]int{2, 0, 0}, [3]int{4, 0, 0}, [3]int{7, 0, 0}
	wantPages(t, g, 0, nearOf(z), h0, h0)
	wantPages(t, g, 0, nearOf(o), h0, [3]int{0, 0, 1})
	wantPages(t, g, 1, nearOf(z), h0, h1, h0, h1)
	wantPages(t, g, 1, nearOf(o), h0, h1, [3]int{0, 0, 1}, [3]int{1, 0, 1})
	wantPages(t, g, 1, nearOf(a), h0, h1, [3]int{1, 1, 1})
	wantPages(t, g, 5, nearOf(z), h0, h1, h4, h0, h1, h4)
	wantPages(t, g, 7, nearOf(z), h0, h1, h2, h4, h7, h0, h1, h4, h7)
	wantPages(t, g, 7, nearOf(a), h0, h1, h2, h4, h7, [3]int{1, 1, 1}, h7)
	for _, clear := range []int{2, 3} {
		for _, q := range []impl.Query{nearOf(alone), distOf(alone)} {
			heads := [][3]int{h0, h1, h2}
			if clear == 2 {
				heads = [][3]int{h0, h2}
			}
			wantPages(t, g, clear, q, heads...)
		}
	}
	if l, _, _ := impl.QueryRun(impl.StoreOf(g), 3, impl.Pool{}, distOf(alone)); !slices.Equal(l, []int{-1, -1, -1, 0}) {
		t.Error(l)
	}
	if l, _, _ := impl.QueryRun(impl.StoreOf(g), 3, impl.Pool{}, nearOf(alone)); len(l) != 0 {
		t.Error(l)
	}
}

// TestQueryPagesInOrderOfMeeting: from the middle of a way nodes are met in
// another order than they have; those that can not be reached are not read.
func TestQueryPagesInOrderOfMeeting(t *testing.T) {
	a, b, c, d, e := nodeOf(0, 0), nodeOf(1, 0), nodeOf(2, 0), nodeOf(4, 0), nodeOf(4, 1)
	g := impl.Graph{
		Nodes: []impl.Node{a, b, c, d, e},
		Edges: []impl.Edge{edgeOf(1, a, b), edgeOf(3, b, c), edgeOf(4, a, d), edgeOf(4, d, e), edgeOf(6, c, d)},
	}
	// Near b are a and c; a comes to d ahead of c; e is met last. Each label but 4
	// has one edge and so two rows. Label 0 has bytes 01 00 00; label 1: 01 00 02,
	// rows of 3 at 3 and 6; label 2: 01 00 00; label 3: 00 02, rows at 2 (of 4:
	// 40 01 81 00) and 6 (81 00 01 40); label 4: 02 00 00 03, rows of a at 4 (of 4:
	// 00 01 82 00), of d at 8 (of 6: 82 00 02 00 82 00), of e at 14; label 6: 00 02,
	// rows of c at 2 and of d at 7 (of 5).
	heads := [][3]int{{0, 0, 0}, {1, 0, 0}, {2, 0, 0}, {3, 0, 0}, {4, 0, 0}, {6, 0, 0}}
	rowB := [][3]int{{1, 0, 1}, {3, 0, 0}}
	rowA := [][3]int{{1, 0, 0}, {4, 0, 0}}
	rowC := [][3]int{{3, 0, 1}, {6, 0, 0}}
	rowD := [][3]int{{4, 1, 1}, {6, 0, 1}}
	rowE := [][3]int{{4, 1, 2}}
	wantPages(t, g, 7, distOf(b), slices.Concat(heads, rowB, rowA, rowC, rowD, rowE)...)
	wantPages(t, g, 7, distOf(e), slices.Concat(heads, rowE, rowD, rowA, rowC, rowB)...)
	wantPages(t, g, 7, coreOf, slices.Concat(heads, rowA, rowB, rowC, rowD, rowE)...)
	// With a and b alone, c is seen and not reached.
	wantPages(t, g, 1, distOf(b), [3]int{0, 0, 0}, [3]int{1, 0, 0}, [3]int{1, 0, 1}, [3]int{1, 0, 0})
}

// TestQueryOfOneKind: a label that has nodes and no rows, and one that has edges
// and no nodes, are both seen: the first bytes of each are read.
func TestQueryOfOneKind(t *testing.T) {
	a, b := nodeOf(1, 2), nodeOf(2, 40)
	bare := impl.Graph{Nodes: []impl.Node{a, b}}
	both := impl.Graph{Nodes: []impl.Node{a, b}, Edges: []impl.Edge{edgeOf(3, a, b)}}
	ha, hb, hab := [3]int{1, 0, 0}, [3]int{2, 0, 0}, [3]int{3, 0, 0}
	for _, q := range []impl.Query{nearOf(a), distOf(b), coreOf, threesOf, nearOf(nodeOf(0, 0)), distOf(nodeOf(0, 0))} {
		wantPages(t, bare, 0, q)
		wantPages(t, bare, 5, q, ha)
		wantPages(t, bare, 3, q, ha, hb)
		wantPages(t, bare, 7, q, ha, hb)
		wantPages(t, both, 1, q, ha)
		wantPages(t, both, 4, q)
	}
	// Label 3: 00 02, 42 01 81 28 at 2, 81 28 01 42 at 6.
	wantPages(t, both, 3, nearOf(a), ha, hb, hab, hab)
	wantPages(t, both, 7, nearOf(b), ha, hb, hab, [3]int{3, 0, 1})
	wantPages(t, both, 7, distOf(b), ha, hb, hab, [3]int{3, 0, 1}, hab)
	wantPages(t, both, 3, nearOf(nodeOf(1, 3)), ha, hb, hab)
	wantPages(t, both, 3, distOf(nodeOf(1, 3)), ha, hb, hab)
}

// TestQueryOfTwoEdges: two nodes that two edges join are near each other once,
// one step off, and a row is read of each label.
func TestQueryOfTwoEdges(t *testing.T) {
	z, o := nodeOf(0, 0), nodeOf(0, 1)
	g := impl.Graph{Nodes: []impl.Node{z, o}, Edges: []impl.Edge{edgeOf(0, z, o), edgeOf(2, z, o), edgeOf(6, z, o)}}
	for clear, labels := range map[int]int{0: 1, 2: 2, 3: 2, 5: 1, 6: 3, 7: 3} {
		for i, q := range []impl.Query{nearOf(z), distOf(z), coreOf, threesOf} {
			want := [][]int{{1}, {0, 1}, {1, 1}, {0}}[i]
			answer, after, _ := impl.QueryRun(impl.StoreOf(g), clear, impl.Pool{Size: 12}, q)
			if !slices.Equal(answer, want) || len(after.List) < labels {
				t.Error(clear, q, answer, after)
			}
			wantQuery(t, partOf(g, clear), impl.StoreOf(g), clear, impl.Pool{Size: 12}, q)
		}
	}
	wantPages(t, g, 2, nearOf(z), [3]int{0, 0, 0}, [3]int{2, 0, 0}, [3]int{0, 0, 0}, [3]int{2, 0, 0})
}

// TestQueryOfNodeThatIsNotSeen: it is answered as one that is not there, though
// it is, and has rows.
func TestQueryOfNodeThatIsNotSeen(t *testing.T) {
	for i, g := range graphsToPack()[:24] {
		store := storeWanted(g)
		for clear := range 7 {
			p := partOf(g, clear)
			heads := p.pages(nearOf(nodeOf(0, 33)))
			for _, n := range append(slices.Clone(g.Nodes), nodeOf(clear, 33), nodeOf(7, 33)) {
				if slices.Contains(p.graph.Nodes, n) {
					continue
				}
				for _, q := range []impl.Query{nearOf(n), distOf(n)} {
					answer, after, reads := impl.QueryRun(store, clear, impl.Pool{Size: 12}, q)
					if len(answer) != 0 || reads != len(heads) || len(after.List) != len(heads) {
						t.Fatal(i, clear, q, answer, after, reads)
					}
					if pages := impl.QueryPages(store, clear, q); !slices.Equal(pages, heads) {
						t.Fatal(i, clear, q, pages)
					}
				}
			}
		}
	}
}

// TestQueryOfStoreOfNothing: no page is read, and the pool stays as it was.
func TestQueryOfStoreOfNothing(t *testing.T) {
	for _, store := range [][]impl.Seg{nil, {}} {
		for clear := range labelNames {
			for _, pool := range poolsToTry() {
				for _, q := range []impl.Query{coreOf, threesOf, nearOf(nodeOf(0, 0)), distOf(nodeOf(0, 0)), distOf(nodeOf(7, 40))} {
					var want []int
					if q == threesOf {
						want = []int{0}
					}
					if got := runTold(store, clear, pool, q); got != told(want, pool, 0) {
						t.Fatal(clear, pool, q, got)
					}
					if pages := impl.QueryPages(store, clear, q); len(pages) != 0 {
						t.Fatal(clear, q, pages)
					}
				}
			}
		}
	}
}

// TestQueryOfNothingSeen: a store of which one sees nothing is as one of nothing.
func TestQueryOfNothingSeen(t *testing.T) {
	n := nodeOf(3, 5)
	g := impl.Graph{Nodes: []impl.Node{n, nodeOf(3, 6)}, Edges: []impl.Edge{edgeOf(3, n, nodeOf(3, 6))}}
	for _, clear := range []int{0, 1, 2, 4, 5, 6} {
		for _, pool := range poolsToAsk {
			for _, q := range queriesOf(g) {
				if runTold(storeWanted(g), clear, pool, q) != runTold(nil, clear, pool, q) {
					t.Error(clear, pool, q)
				}
			}
		}
	}
}

// TestQueryWithPools: without room each page is read as often as it is asked
// for; with all pages at hand none is; and a second time, where all have room,
// none is either, and the answer is the same.
func TestQueryWithPools(t *testing.T) {
	r := rand.New(rand.NewSource(33))
	again := 0
	for i, g := range graphsToPack()[:30] {
		store := storeWanted(g)
		for clear := range labelNames {
			for _, q := range someQueries(r, g, 2) {
				pages := impl.QueryPages(store, clear, q)
				answer, none, reads := impl.QueryRun(store, clear, impl.Pool{}, q)
				if !isNoPool(none) || reads != len(pages) {
					t.Fatal(i, clear, q, none, reads)
				}
				met := lastUsed(pages, math.MaxInt)
				first, pool, reads := impl.QueryRun(store, clear, impl.Pool{Size: 12}, q)
				if !slices.Equal(first, answer) || reads < len(met) {
					t.Fatal(i, clear, q, first, reads)
				}
				second, after, more := impl.QueryRun(store, clear, pool, q)
				if !slices.Equal(second, answer) || len(met) <= 12 && (more != 0 || reads != len(met) || !samePool(after, pool)) {
					t.Fatal(i, clear, q, second, after, more)
				}
				if len(met) > 12 {
					continue
				}
				again++
				had := impl.Pool{Size: 12, List: slices.Clone(met)}
				slices.Reverse(had.List)
				if got := runTold(store, clear, had, q); got != told(answer, impl.Pool{Size: 12, List: met}, 0) {
					t.Fatal(i, clear, q, got)
				}
			}
		}
	}
	if again < 200 {
		t.Error(again)
	}
}

// turnedUnseen is a graph in which much has been done to what is not seen.
func turnedUnseen(r *rand.Rand, g impl.Graph, clear int) impl.Graph {
	for range 80 {
		op := randomOp(r)
		if r.Intn(2) == 0 {
			op = edgeAmong(r, g)
		}
		if len(g.Edges) > 0 && r.Intn(6) == 0 {
			op = cutEdge(g.Edges[r.Intn(len(g.Edges))])
		}
		if !seenWith(opLabelWanted(op), clear) {
			g, _ = doWanted(g, op)
		}
	}
	return g
}

// TestQueryHangsOnWhatIsSeen is promise 6: what is answered is true of what is
// seen; and of two stores that differ only in what is not seen, and of one that
// has no more than what is seen, the answer, the pages, what is at hand behind
// it and how many were read are the same.
func TestQueryHangsOnWhatIsSeen(t *testing.T) {
	r := rand.New(rand.NewSource(34))
	unlike := 0
	for i, g := range graphsToPack() {
		store := impl.StoreOf(g)
		for clear := range labelNames {
			other := turnedUnseen(r, g, clear)
			seen := viewWanted(g, clear)
			if !sameGraph(viewWanted(other, clear), seen) {
				t.Fatal(i, clear)
			}
			if !sameGraph(other, g) {
				unlike++
			}
			for _, q := range someQueries(r, other, 3) {
				pool := poolsToAsk[r.Intn(len(poolsToAsk))]
				pages, run := impl.QueryPages(store, clear, q), runTold(store, clear, pool, q)
				answer, _, _ := impl.QueryRun(store, clear, pool, q)
				if !slices.Equal(answer, impl.QueryAsk(seen, q)) {
					t.Fatal(i, clear, q, answer)
				}
				for _, page := range pages {
					if !seenWith(page.Label, clear) {
						t.Fatal(i, clear, q, page)
					}
				}
				for _, same := range [][]impl.Seg{impl.StoreOf(other), impl.StoreOf(seen), impl.StoreView(store, clear)} {
					if !slices.Equal(impl.QueryPages(same, clear, q), pages) || runTold(same, clear, pool, q) != run {
						t.Fatal(i, clear, q, pool, run, runTold(same, clear, pool, q))
					}
				}
			}
		}
	}
	if unlike < 300 {
		t.Error(unlike)
	}
}

// TestQueryHangsOnAllThatIsSeen: what is done to what is seen is told.
func TestQueryHangsOnAllThatIsSeen(t *testing.T) {
	z, o := nodeOf(0, 0), nodeOf(0, 1)
	g := impl.Graph{Nodes: []impl.Node{z, o}}
	for label := range labelNames {
		h, _ := doWanted(g, putEdge(edgeOf(label, z, o)))
		for clear := range labelNames {
			near, _, _ := impl.QueryRun(impl.StoreOf(h), clear, impl.Pool{}, nearOf(z))
			if (len(near) == 1) != seenWith(label, clear) {
				t.Error(label, clear, near)
			}
		}
	}
}

func TestQueryOfWrongQueries(t *testing.T) {
	for _, store := range [][]impl.Seg{nil, smallStore(), storeWanted(fullGraph())} {
		for i, q := range wrongQueries() {
			wantNoQuery(t, store, i%8, poolsToAsk[i%len(poolsToAsk)], q)
			wantNoQuery(t, store, 7, impl.Pool{Size: 12, List: rowOfPages(3)}, q)
		}
	}
}

func TestQueryWithNoLabel(t *testing.T) {
	for _, store := range [][]impl.Seg{nil, smallStore(), storeWanted(fullGraph())} {
		for _, clear := range noLabels {
			for i, q := range queriesOf(smallGraph()) {
				wantNoQuery(t, store, clear, poolsToAsk[i%len(poolsToAsk)], q)
			}
		}
	}
}

// TestQueryOfWrongStores: no part of a store that is no graph's answers, whoever
// asks.
func TestQueryOfWrongStores(t *testing.T) {
	for i, store := range append(wrongStores(), wildStore()) {
		for clear := range labelNames {
			for j, q := range []impl.Query{coreOf, threesOf, nearOf(nodeOf(0, 0)), distOf(nodeOf(0, 0))} {
				wantNoQuery(t, store, clear, poolsToAsk[(i+j)%len(poolsToAsk)], q)
			}
		}
	}
}

// TestQueryOfBentUnseen: all that is seen is right, and only what is not seen is
// bent; without that part there would be an answer.
func TestQueryOfBentUnseen(t *testing.T) {
	whole := storeWanted(fullGraph())
	for clear := range 7 {
		for label := range labelNames {
			if seenWith(label, clear) {
				continue
			}
			for _, bent := range []string{"", "\x00\x00", "\x80", "\x01", "\x01\x00", "\x01\x29\x00", "\x01\x00\x00\x00", "\x06\x00\x00\x00\x00\x00\x00\x00", "\x01\x00\x01\x00\x01\x00"} {
				store := slices.Clone(whole)
				store[label].Bytes = bent
				for _, q := range []impl.Query{coreOf, threesOf, nearOf(nodeOf(0, 0)), distOf(nodeOf(0, 7))} {
					wantNoQuery(t, store, clear, impl.Pool{Size: 12, List: rowOfPages(5)}, q)
					if answer, _, reads := impl.QueryRun(impl.StoreView(store, clear), clear, impl.Pool{Size: 12}, q); len(answer) == 0 || reads == 0 {
						t.Fatal(clear, label, q)
					}
				}
			}
		}
		for _, wild := range noLabels {
			wantNoQuery(t, append(slices.Clone(whole), impl.Seg{Label: wild, Bytes: "\x01\x00\x00"}), clear, impl.Pool{Size: 12}, threesOf)
		}
	}
}

// TestQueryOfTurnedStores: stores that are turned here and there answer where
// they are a graph's still, and only there.
func TestQueryOfTurnedStores(t *testing.T) {
	r := rand.New(rand.NewSource(35))
	met := map[bool]int{}
	for _, g := range append(graphsToPack()[:20], impl.Graph{Nodes: plainNodes(3), Edges: []impl.Edge{edgeOf(0, nodeOf(0, 0), nodeOf(0, 1))}}) {
		for range 60 {
			store := turnedStore(r, storeWanted(g))
			read, ok := readWanted(store)
			met[ok]++
			clear, pool := r.Intn(8), poolsToAsk[r.Intn(len(poolsToAsk))]
			for _, q := range someQueries(r, g, 1) {
				if ok {
					wantQuery(t, partOf(read, clear), store, clear, pool, q)
				} else {
					wantNoQuery(t, store, clear, pool, q)
				}
			}
		}
	}
	if met[true] < 100 || met[false] < 100 {
		t.Error(met)
	}
}

// TestQueryWithWrongPools: nothing is told, but the pages, which are of no pool.
func TestQueryWithWrongPools(t *testing.T) {
	for i, pool := range wrongPools() {
		for _, store := range [][]impl.Seg{nil, smallStore()} {
			for _, q := range []impl.Query{coreOf, threesOf, nearOf(nodeOf(0, 0)), distOf(nodeOf(0, 0))} {
				if got := runTold(store, i%8, pool, q); got != toldNothing {
					t.Fatal(pool, q, got)
				}
			}
		}
	}
	if len(impl.QueryPages(smallStore(), 7, coreOf)) == 0 {
		t.Error("pages")
	}
}

// TestQueryOfGreatNumbers: all that is asked with, in turn and at once.
func TestQueryOfGreatNumbers(t *testing.T) {
	for _, wild := range []int{math.MaxInt, math.MinInt, math.MaxInt - 1, math.MinInt + 1, math.MaxInt32, math.MinInt32, 1 << 58, -1 << 58, 1 << 62} {
		n := nodeOf(wild, wild)
		pool := impl.Pool{Size: wild, List: []impl.Page{pageOf(wild, wild)}}
		store := []impl.Seg{{Label: wild, Bytes: "\xff\x7f\xff\x7f"}}
		wantNoQuery(t, smallStore(), 7, impl.Pool{Size: 12}, queryOf(wild, n))
		wantNoQuery(t, smallStore(), 7, impl.Pool{Size: 12}, nearOf(n))
		wantNoQuery(t, smallStore(), wild, impl.Pool{Size: 12}, coreOf)
		wantNoQuery(t, store, 7, impl.Pool{Size: 12}, coreOf)
		wantNoQuery(t, store, wild, pool, queryOf(wild, n))
		if got := runTold(smallStore(), 7, pool, coreOf); got != toldNothing {
			t.Error(wild, got)
		}
		broken := impl.Graph{Nodes: []impl.Node{n}, Edges: []impl.Edge{edgeOf(wild, n, n)}}
		if len(impl.QueryAsk(broken, coreOf)) != 0 || len(impl.QueryAsk(broken, queryOf(wild, n))) != 0 || impl.QueryOk(queryOf(wild, n)) {
			t.Error(wild)
		}
	}
}

// askEach calls all that answers of a store, and writes over each answer when it
// has been copied.
func askEach(store []impl.Seg, clear int, pool impl.Pool, q impl.Query, hold func(name string)) string {
	pages := impl.QueryPages(store, clear, q)
	all := fmt.Sprint(len(pages), pages)
	scribblePages(pages)
	hold("pages")
	answer, after, reads := impl.QueryRun(store, clear, pool, q)
	all += told(answer, after, reads)
	scribbleNumbers(answer)
	scribblePages(after.List)
	hold("run")
	return all
}

func TestQueryOfStoresIsNewMemory(t *testing.T) {
	r := rand.New(rand.NewSource(36))
	stores := [][]impl.Seg{nil, smallStore(), storeWanted(fullGraph()), storeWanted(denseGraph()), wildStore(), smallStore()[1:]}
	pools := append(slices.Clone(poolsToAsk), wrongPools()[:40]...)
	for i, plain := range stores {
		for _, plainPool := range pools {
			store, whole := roomyStore(plain)
			list, wholeList := roomyPages(plainPool.List)
			pool := impl.Pool{Size: plainPool.Size, List: list}
			kept, keptList := slices.Clone(whole), slices.Clone(wholeList)
			hold := func(name string) {
				if !slices.Equal(whole, kept) || !slices.Equal(wholeList, keptList) {
					t.Fatal(i, pool, name)
				}
			}
			for _, clear := range []int{0, 3, 7, 8} {
				for _, q := range append(someQueries(r, smallGraph(), 2), impl.Query{}) {
					if first, again := askEach(store, clear, pool, q, hold), askEach(store, clear, pool, q, hold); first != again {
						t.Fatal(i, clear, pool, q, first, again)
					}
				}
			}
		}
	}
}

func TestQueryAskIsNewMemory(t *testing.T) {
	for i, plain := range append(graphsToTry()[:12], brokenGraphs()[:20]...) {
		g, whole := roomy(plain)
		kept := copyGraph(whole)
		for _, q := range append(queriesOf(plain), wrongQueries()[:6]...) {
			first := impl.QueryAsk(g, q)
			text := fmt.Sprint(first)
			scribbleNumbers(first)
			if !sameGraph(whole, kept) || fmt.Sprint(impl.QueryAsk(g, q)) != text {
				t.Fatal(i, q)
			}
		}
	}
}
