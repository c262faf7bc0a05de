package tests

import (
	"fmt"
	"math"
	"math/rand"
	"slices"
	"testing"

	"loop.example/hagioscope/impl"
)

func personOf(clear int, size int, quota int) impl.Person {
	return impl.Person{Clear: clear, Size: size, Quota: quota}
}

func evDo(who int, op impl.Op) impl.Ev        { return impl.Ev{Kind: impl.EvDo, Who: who, Op: op} }
func evAsk(who int, q impl.Query) impl.Ev     { return impl.Ev{Kind: impl.EvAsk, Who: who, Query: q} }
func evFill(who int) impl.Ev                  { return impl.Ev{Kind: impl.EvFill, Who: who} }
func coded(code int) impl.Told                { return impl.Told{Code: code} }
func read(reads int, answer ...int) impl.Told { return impl.Told{Answer: answer, Reads: reads} }
func spent(reads int) impl.Told               { return impl.Told{Code: impl.ToldSpent, Reads: reads} }

// The tests' own words for chapter 7 follow. They take a world to the next one,
// keep no answer, and lean on the tests' own words for the chapters ahead alone.

func personWanted(p impl.Person) bool {
	return isLabel(p.Clear) && 0 <= p.Size && p.Size <= 12 && 0 <= p.Quota && p.Quota <= 100
}

func peopleWanted(people []impl.Person) bool {
	wrong := slices.ContainsFunc(people, func(p impl.Person) bool { return !personWanted(p) })
	return len(people) <= 4 && !wrong
}

func worldWanted(w impl.World) bool {
	if !peopleWanted(w.People) || !graphWanted(w.Graph) || len(w.Pools) != len(w.People) || len(w.Left) != len(w.People) {
		return false
	}
	for i, p := range w.People {
		if !poolWanted(w.Pools[i]) || w.Pools[i].Size != p.Size || w.Left[i] < 0 || w.Left[i] > p.Quota {
			return false
		}
	}
	return true
}

func newWanted(people []impl.Person) impl.World {
	w := impl.World{}
	if peopleWanted(people) {
		for _, p := range people {
			w.People = append(w.People, p)
			w.Pools = append(w.Pools, impl.Pool{Size: p.Size})
			w.Left = append(w.Left, p.Quota)
		}
	}
	return w
}

func copyWorld(w impl.World) impl.World {
	c := impl.World{People: slices.Clone(w.People), Graph: copyGraph(w.Graph), Left: slices.Clone(w.Left)}
	for _, p := range w.Pools {
		c.Pools = append(c.Pools, impl.Pool{Size: p.Size, List: slices.Clone(p.List)})
	}
	return c
}

func sameWorld(a impl.World, b impl.World) bool {
	return slices.Equal(a.People, b.People) && sameGraph(a.Graph, b.Graph) && slices.EqualFunc(a.Pools, b.Pools, samePool) && slices.Equal(a.Left, b.Left)
}

func isNoWorld(w impl.World) bool {
	return len(w.People)+len(w.Graph.Nodes)+len(w.Graph.Edges)+len(w.Pools)+len(w.Left) == 0
}

func sameTold(a impl.Told, b impl.Told) bool {
	return a.Code == b.Code && a.Reads == b.Reads && slices.Equal(a.Answer, b.Answer)
}

func sameTolds(a []impl.Told, b []impl.Told) bool { return slices.EqualFunc(a, b, sameTold) }

func stepWanted(w impl.World, ev impl.Ev) (impl.World, impl.Told) {
	if !worldWanted(w) {
		return impl.World{}, coded(1)
	}
	w = copyWorld(w)
	if ev.Who < 0 || ev.Who >= len(w.People) {
		return w, coded(1)
	}
	who, one := ev.Who, w.People[ev.Who]
	switch {
	case ev.Kind == 1 && opLabelWanted(ev.Op) >= 0:
		if !seenWith(opLabelWanted(ev.Op), one.Clear) {
			return w, coded(5)
		}
		g, code := doWanted(w.Graph, ev.Op)
		w.Graph = g
		return w, coded(code)
	case ev.Kind == 2 && queryWanted(ev.Query):
		seen := partOf(w.Graph, one.Clear)
		after, reads := allWanted(w.Pools[who], seen.pages(ev.Query))
		if left := w.Left[who]; reads > left {
			w.Left[who] = 0
			return w, impl.Told{Code: 6, Reads: left}
		}
		w.Pools[who] = after
		w.Left[who] -= reads
		return w, impl.Told{Answer: seen.answer(ev.Query), Reads: reads}
	case ev.Kind == 3:
		w.Left[who] = one.Quota
		return w, coded(0)
	}
	return w, coded(1)
}

func playWanted(people []impl.Person, evs []impl.Ev) (impl.World, []impl.Told) {
	if !peopleWanted(people) || len(evs) > 80 {
		return impl.World{}, nil
	}
	w := newWanted(people)
	var all []impl.Told
	for _, ev := range evs {
		next, one := stepWanted(w, ev)
		w, all = next, append(all, one)
	}
	return w, all
}

func lowWanted(people []impl.Person, ev impl.Ev, clear int) bool {
	for i, p := range people {
		if i == ev.Who {
			return seenWith(p.Clear, clear)
		}
	}
	return false
}

// keptWanted says whether what happens stays when all is purged that those who
// see no more than clear can not see.
func keptWanted(people []impl.Person, ev impl.Ev, clear int) bool {
	return lowWanted(people, ev, clear) || ev.Kind == 1 && seenWith(opLabelWanted(ev.Op), clear)
}

func wantPlay(t *testing.T, people []impl.Person, evs []impl.Ev) (impl.World, []impl.Told) {
	t.Helper()
	w, all := impl.WorldPlay(people, evs)
	want, wantAll := playWanted(people, evs)
	if !sameTolds(all, wantAll) {
		t.Fatalf("%v: told %v, not %v", evs, all, wantAll)
	}
	if !sameWorld(w, want) {
		t.Fatalf("%v: %v, not %v", evs, w, want)
	}
	return w, all
}

// wantTold holds a play against what is written out.
func wantTold(t *testing.T, people []impl.Person, evs []impl.Ev, want ...impl.Told) impl.World {
	t.Helper()
	w, all := wantPlay(t, people, evs)
	if len(all) != len(want) {
		t.Fatal(all)
	}
	for i := range want {
		if !sameTold(all[i], want[i]) {
			t.Errorf("%d, %v: told %v, not %v", i, evs[i], all[i], want[i])
		}
	}
	return w
}

func wantStep(t *testing.T, w impl.World, ev impl.Ev) {
	t.Helper()
	got, one := impl.WorldDo(w, ev)
	want, wantOne := stepWanted(w, ev)
	if !sameTold(one, wantOne) || !sameWorld(got, want) {
		t.Fatalf("%v in %v: %v %v, not %v %v", ev, w, got, one, want, wantOne)
	}
}

// wantAsItWas: nothing is done, and only a code is told.
func wantAsItWas(t *testing.T, w impl.World, ev impl.Ev, code int) {
	t.Helper()
	got, one := impl.WorldDo(w, ev)
	if !sameTold(one, coded(code)) || !sameWorld(got, w) {
		t.Fatalf("%v in %v: %v %v, not %d", ev, w, got, one, code)
	}
	wantStep(t, w, ev)
}

func randomPeople(r *rand.Rand) []impl.Person {
	var people []impl.Person
	for range 1 + r.Intn(4) {
		people = append(people, personOf([]int{0, 1, 3, 7, r.Intn(8)}[r.Intn(5)], []int{0, 1, 2, 3, 5, 8, 12}[r.Intn(7)], []int{0, 1, 2, 5, 12, 40, 100, 100}[r.Intn(8)]))
	}
	return people
}

// likelyOp can be done in most cases; else what is to be put in has no room, or
// what is to be taken away is not there, in many of the others.
func likelyOp(r *rand.Rand, g impl.Graph) impl.Op {
	some := nodeOf([]int{0, 0, 0, 0, 1, 1, 3, r.Intn(8)}[r.Intn(8)], r.Intn(9))
	switch chance := r.Intn(20); {
	case chance < 9 || len(g.Nodes) < 2:
		return putNode(some)
	case chance < 15:
		return edgeAmong(r, g)
	case chance < 16 && len(g.Edges) > 0:
		return cutEdge(g.Edges[r.Intn(len(g.Edges))])
	case chance < 17:
		return goneNode(g.Nodes[r.Intn(len(g.Nodes))])
	case chance < 18:
		return goneNode(some)
	}
	return randomOp(r)
}

func randomEv(r *rand.Rand, w impl.World) impl.Ev {
	who := r.Intn(len(w.People))
	if r.Intn(25) == 0 {
		who = []int{-1, len(w.People), 4, math.MaxInt, math.MinInt, 1 << 32, -1 << 32}[r.Intn(7)]
	}
	switch chance := r.Intn(100); {
	case chance < 48:
		return evDo(who, likelyOp(r, w.Graph))
	case chance < 88:
		all := queriesOf(w.Graph)
		return evAsk(who, all[min(r.Intn(len(all)), r.Intn(len(all)))])
	case chance < 90:
		wrong := wrongQueries()
		return evAsk(who, wrong[r.Intn(len(wrong))])
	case chance < 97:
		return evFill(who)
	}
	return impl.Ev{Kind: []int{0, 4, -1, 257, 1<<32 + 1, math.MinInt}[r.Intn(6)], Who: who, Op: likelyOp(r, w.Graph), Query: coreOf}
}

func randomPlay(r *rand.Rand, people []impl.Person, count int) []impl.Ev {
	w := newWanted(people)
	var evs []impl.Ev
	for range count {
		ev := randomEv(r, w)
		if ev.Kind == 1 {
			w, _ = stepWanted(w, ev)
		}
		evs = append(evs, ev)
	}
	return evs
}

// worldsToTry are new ones, and such in which much has happened.
func worldsToTry() []impl.World {
	r := rand.New(rand.NewSource(71))
	list := []impl.World{{}, newWanted([]impl.Person{personOf(0, 0, 0)}), newWanted([]impl.Person{personOf(7, 12, 100), personOf(0, 4, 6), personOf(3, 0, 3), personOf(5, 12, 0)}), fullWorld()}
	for range 30 {
		people := randomPeople(r)
		w, _ := playWanted(people, randomPlay(r, people, 30+r.Intn(50)))
		list = append(list, w)
	}
	return list
}

// fullWorld has as much of everything as there may be.
func fullWorld() impl.World {
	w := newWanted([]impl.Person{personOf(7, 12, 100), personOf(0, 12, 100), personOf(5, 12, 100), personOf(7, 12, 100)})
	w.Graph = fullGraph()
	for i := range w.Pools {
		w.Pools[i].List = rowOfPages(12)
	}
	return w
}

func smallWorld() impl.World {
	w := newWanted([]impl.Person{personOf(0, 2, 6), personOf(3, 5, 50), personOf(7, 0, 9)})
	w.Graph = smallGraph()
	w.Pools[0].List = []impl.Page{pageOf(0, 0)}
	w.Pools[1].List = []impl.Page{pageOf(1, 1), pageOf(0, 0), pageOf(3, 0)}
	w.Left = []int{4, 50, 0}
	return w
}

func wrongPeople() []impl.Person {
	var people []impl.Person
	for _, wild := range noLabels {
		people = append(people, personOf(wild, 0, 0), personOf(wild, 12, 100))
	}
	for _, wild := range append([]int{13, 101, 1000}, wildNumbers...) {
		if wild < 0 || wild > 12 {
			people = append(people, personOf(0, wild, 0), personOf(7, wild, 100))
		}
		if wild < 0 || wild > 100 {
			people = append(people, personOf(0, 0, wild), personOf(7, 12, wild))
		}
	}
	return people
}

// crowds are people who are not ok: too many, or one of them wrong.
func crowds() [][]impl.Person {
	fine := personOf(0, 4, 6)
	list := [][]impl.Person{{fine, fine, fine, fine, fine}, slices.Repeat([]impl.Person{personOf(7, 12, 100)}, 40)}
	for i, wrong := range wrongPeople() {
		people := slices.Repeat([]impl.Person{fine}, 1+i%4)
		people[i/4%len(people)] = wrong
		list = append(list, people)
	}
	return list
}

// brokenWorlds are each wrong in one thing.
func brokenWorlds() []impl.World {
	var list []impl.World
	turned := func(turn func(w *impl.World)) {
		w := smallWorld()
		turn(&w)
		list = append(list, w)
	}
	for place := range 3 {
		for _, wild := range wildNumbers {
			turned(func(w *impl.World) { w.Left[place] = min(wild, -1) })
			turned(func(w *impl.World) { w.Left[place] = max(wild, w.People[place].Quota+1) })
		}
		for _, wrong := range wrongPeople() {
			turned(func(w *impl.World) {
				w.People[place], w.Pools[place], w.Left[place] = wrong, impl.Pool{Size: wrong.Size}, 0
			})
		}
		for _, wrong := range wrongPools() {
			turned(func(w *impl.World) { w.Pools[place], w.People[place].Size = wrong, wrong.Size })
		}
		for size := range 13 {
			if size != smallWorld().People[place].Size {
				turned(func(w *impl.World) { w.Pools[place].Size = size })
				turned(func(w *impl.World) { w.Pools[place] = impl.Pool{Size: size} })
			}
		}
		turned(func(w *impl.World) { w.People = w.People[:place] })
		turned(func(w *impl.World) { w.Pools = w.Pools[:place] })
		turned(func(w *impl.World) { w.Left = w.Left[:place] })
	}
	for _, g := range brokenGraphs() {
		turned(func(w *impl.World) { w.Graph = g })
	}
	turned(func(w *impl.World) { w.People = append(w.People, personOf(0, 0, 0)) })
	turned(func(w *impl.World) { w.Pools = append(w.Pools, impl.Pool{}) })
	turned(func(w *impl.World) { w.Left = append(w.Left, 0) })
	many := fullWorld()
	many.People, many.Pools, many.Left = append(many.People, personOf(0, 0, 0)), append(many.Pools, impl.Pool{}), append(many.Left, 0)
	return append(list, many, impl.World{Left: []int{0}}, impl.World{Pools: []impl.Pool{{}}}, impl.World{People: []impl.Person{{}}}, impl.World{Graph: brokenGraphs()[0]})
}

func TestWorldBounds(t *testing.T) {
	if impl.PeopleMost != 4 || impl.QuotaMost != 100 || impl.EvMost != 80 {
		t.Error("bounds")
	}
	if impl.EvDo != 1 || impl.EvAsk != 2 || impl.EvFill != 3 || impl.ToldDenied != 5 || impl.ToldSpent != 6 {
		t.Error("kinds and codes")
	}
}

func TestPersonOk(t *testing.T) {
	for clear := -2; clear <= 9; clear++ {
		for size := -2; size <= 15; size++ {
			for quota := -2; quota <= 103; quota++ {
				if p := personOf(clear, size, quota); impl.PersonOk(p) != personWanted(p) {
					t.Error(p)
				}
			}
		}
	}
	for _, p := range []impl.Person{{}, personOf(7, 12, 100), personOf(0, 12, 0), personOf(7, 0, 100)} {
		if !impl.PersonOk(p) {
			t.Error(p)
		}
	}
	for _, p := range wrongPeople() {
		if impl.PersonOk(p) {
			t.Error(p)
		}
	}
}

func TestWorldNew(t *testing.T) {
	r := rand.New(rand.NewSource(72))
	groups := [][]impl.Person{nil, {}, {{}}, slices.Repeat([]impl.Person{personOf(7, 12, 100)}, 4), {personOf(3, 0, 9), personOf(0, 12, 0)}}
	for range 60 {
		groups = append(groups, randomPeople(r))
	}
	for _, people := range groups {
		w := impl.WorldNew(people)
		if !sameWorld(w, newWanted(people)) || len(w.People) != len(people) || !impl.WorldOk(w) {
			t.Error(people, w)
		}
	}
	w := impl.WorldNew([]impl.Person{personOf(5, 3, 20), personOf(0, 12, 0)})
	if fmt.Sprint(w) != "{[{5 3 20} {0 12 0}] {[] []} [{3 []} {12 []}] [20 0]}" {
		t.Error(w)
	}
	for _, people := range crowds() {
		if w := impl.WorldNew(people); !isNoWorld(w) {
			t.Error(people, w)
		}
	}
}

func TestWorldOk(t *testing.T) {
	for i, w := range append(worldsToTry(), smallWorld()) {
		if !impl.WorldOk(w) || !worldWanted(w) {
			t.Error(i, w)
		}
	}
	for i, w := range brokenWorlds() {
		if impl.WorldOk(w) || worldWanted(w) {
			t.Error(i, w)
		}
	}
	w := smallWorld()
	for place, p := range w.People {
		for left := -2; left <= 102; left++ {
			w.Left[place] = left
			if impl.WorldOk(w) != (0 <= left && left <= p.Quota) {
				t.Error(place, left)
			}
		}
		w.Left[place] = p.Quota
	}
}

func TestWorldSame(t *testing.T) {
	list := append(worldsToTry(), smallWorld(), impl.World{People: []impl.Person{}, Pools: []impl.Pool{}, Left: []int{}})
	broken := brokenWorlds()
	for i := 0; i < len(broken); i += 7 {
		list = append(list, broken[i])
	}
	for i, a := range list {
		for j, b := range list {
			if impl.WorldSame(a, b) != sameWorld(a, b) || i == j && !impl.WorldSame(a, copyWorld(b)) {
				t.Error(i, j)
			}
		}
	}
	if !impl.WorldSame(impl.World{}, impl.World{People: []impl.Person{}, Graph: impl.Graph{Nodes: []impl.Node{}, Edges: []impl.Edge{}}, Pools: []impl.Pool{}, Left: []int{}}) {
		t.Error("nothing")
	}
}

// TestWorldSameInAllParts turns a world in each of its parts.
func TestWorldSameInAllParts(t *testing.T) {
	whole := smallWorld()
	for i, turn := range []func(w *impl.World){
		func(w *impl.World) { w.People[0].Clear++ }, func(w *impl.World) { w.People[1].Size++ }, func(w *impl.World) { w.People[2].Quota++ },
		func(w *impl.World) { w.People = w.People[:2] }, func(w *impl.World) { w.People = append(w.People, impl.Person{}) },
		func(w *impl.World) { w.Graph.Nodes[4].Num++ }, func(w *impl.World) { w.Graph.Nodes = w.Graph.Nodes[:4] },
		func(w *impl.World) { w.Graph.Edges[0].Label++ }, func(w *impl.World) { w.Graph.Edges = w.Graph.Edges[1:] },
		func(w *impl.World) { w.Pools[2].Size++ }, func(w *impl.World) { w.Pools[1].List[2].At++ }, func(w *impl.World) { w.Pools[0].List = nil },
		func(w *impl.World) { slices.Reverse(w.Pools[1].List) }, func(w *impl.World) { w.Pools = w.Pools[:2] }, func(w *impl.World) { w.Pools = append(w.Pools, impl.Pool{}) },
		func(w *impl.World) { w.Left[0]++ }, func(w *impl.World) { w.Left = w.Left[:2] }, func(w *impl.World) { w.Left = append(w.Left, 0) },
		func(w *impl.World) { slices.Reverse(w.Left) }, func(w *impl.World) { slices.Reverse(w.People) },
	} {
		w := smallWorld()
		turn(&w)
		if impl.WorldSame(w, whole) || impl.WorldSame(whole, w) || !impl.WorldSame(w, copyWorld(w)) {
			t.Error(i, w)
		}
	}
}

func TestToldSame(t *testing.T) {
	lists := [][]impl.Told{
		nil, {{}}, {{}, {}}, {coded(1)}, {coded(6)}, {spent(3)}, {spent(4)}, {read(3)}, {read(3, 0)}, {read(3, 1)}, {read(3, 0, 1)}, {read(3, 1, 0)},
		{read(0, 0)}, {read(0, 0, -1)}, {{Code: 1, Answer: []int{0}}}, {read(3, 0), coded(1)}, {coded(1), read(3, 0)}, {coded(1), read(3, 0), {}},
		{{Code: math.MinInt, Reads: math.MaxInt, Answer: []int{math.MinInt}}}, {{Code: math.MinInt, Reads: math.MaxInt, Answer: []int{math.MaxInt}}},
		{coded(1 << 32)}, {coded(-1)}, {{Reads: -1}}, {{Reads: 1 << 32}},
	}
	for i, a := range lists {
		for j, b := range lists {
			if impl.ToldSame(a, b) != (i == j) {
				t.Error(a, b)
			}
		}
	}
	if !impl.ToldSame(nil, []impl.Told{}) || !impl.ToldSame([]impl.Told{{Answer: []int{}}}, []impl.Told{{}}) || !impl.ToldSame([]impl.Told{read(2, 5, 6)}, []impl.Told{read(2, 5, 6)}) {
		t.Error("same")
	}
}

// TestWorldOfDocument is the document's example of a script, as what happens.
func TestWorldOfDocument(t *testing.T) {
	one, two, a, bc := nodeOf(0, 1), nodeOf(0, 2), nodeOf(1, 1), nodeOf(6, 5)
	people := []impl.Person{personOf(0, 4, 40), personOf(1, 6, 40), personOf(7, 8, 100)}
	fine := coded(0)
	w := wantTold(t, people, []impl.Ev{
		evDo(0, putNode(one)), evDo(0, putNode(two)), evDo(1, putNode(a)), evDo(2, putNode(bc)),
		evDo(1, putEdge(edgeOf(1, one, a))), evDo(1, putEdge(edgeOf(1, two, a))), evDo(2, putEdge(edgeOf(7, a, bc))),
		evAsk(0, distOf(one)), evAsk(1, distOf(one)), evDo(0, putEdge(edgeOf(0, one, two))), evAsk(0, distOf(one)),
		evAsk(1, threesOf), evAsk(2, coreOf), evDo(0, putNode(nodeOf(1, 7))), evAsk(0, threesOf),
	}, fine, fine, fine, fine, fine, fine, fine, read(1, 0, -1), read(3, 0, 2, 1), fine, read(1, 0, 1), read(1, 1), read(7, 2, 2, 2, 1), coded(5), read(0, 0))
	if !slices.Equal(w.Left, []int{38, 36, 93}) || !slices.Equal(w.People, people) {
		t.Error(w)
	}
}

// TestWorldDoes goes through every kind of what happens in all kinds of worlds.
func TestWorldDoes(t *testing.T) {
	r := rand.New(rand.NewSource(73))
	for _, w := range append(worldsToTry(), smallWorld()) {
		if len(w.People) == 0 {
			continue
		}
		for range 60 {
			wantStep(t, w, randomEv(r, w))
		}
	}
	for who := range 3 {
		for _, q := range queriesOf(smallGraph()) {
			wantStep(t, smallWorld(), evAsk(who, q))
		}
		for _, e := range smallGraph().Edges {
			wantStep(t, smallWorld(), evDo(who, cutEdge(e)))
			wantStep(t, smallWorld(), evDo(who, putEdge(e)))
		}
		for _, n := range append(smallGraph().Nodes, nodeOf(0, 7), nodeOf(5, 7)) {
			wantStep(t, smallWorld(), evDo(who, goneNode(n)))
			wantStep(t, smallWorld(), evDo(who, putNode(n)))
		}
	}
}

// TestWorldPlays holds plays of one to four people against the words above, and
// against what the same does one by one.
func TestWorldPlays(t *testing.T) {
	r := rand.New(rand.NewSource(74))
	met := map[int]int{}
	for range 200 {
		people := randomPeople(r)
		evs := randomPlay(r, people, 81-r.Intn(1+r.Intn(81)))
		evs = evs[:min(len(evs), 80)]
		last, all := wantPlay(t, people, evs)
		w := impl.WorldNew(people)
		for i, ev := range evs {
			next, one := impl.WorldDo(w, ev)
			if !sameTold(one, all[i]) || !impl.WorldOk(next) {
				t.Fatal(i, ev, one, all[i])
			}
			met[one.Code]++
			if len(one.Answer) > 0 {
				met[100+ev.Query.Kind]++
			}
			w = next
		}
		if !impl.WorldSame(w, last) {
			t.Fatal(w, last)
		}
	}
	for _, code := range []int{0, 1, 2, 3, 4, 5, 6, 101, 102, 103, 104} {
		if met[code] < 20 {
			t.Error(code, met)
		}
	}
}

// TestWorldWithoutPeople: whatever happens is of nobody.
func TestWorldWithoutPeople(t *testing.T) {
	evs := []impl.Ev{evDo(0, putNode(nodeOf(0, 0))), evAsk(0, threesOf), evFill(0), evFill(-1), {}}
	form := coded(1)
	for _, people := range [][]impl.Person{nil, {}} {
		if w := wantTold(t, people, evs, form, form, form, form, form); !isNoWorld(w) {
			t.Error(w)
		}
		if l := impl.WorldSeen(people, evs, 7); len(l) != 0 {
			t.Error(l)
		}
		if l := impl.WorldPurge(people, evs, 0); !slices.Equal(l, evs[:1]) {
			t.Error(l)
		}
	}
	for _, ev := range evs {
		wantAsItWas(t, impl.World{}, ev, 1)
	}
}

func TestWorldOfFourPeople(t *testing.T) {
	people := []impl.Person{personOf(0, 1, 9), personOf(1, 2, 9), personOf(2, 3, 9), personOf(3, 4, 9)}
	evs := []impl.Ev{
		evDo(3, putNode(nodeOf(3, 1))), evDo(2, putNode(nodeOf(2, 2))), evDo(1, putNode(nodeOf(1, 3))), evDo(0, putNode(nodeOf(0, 4))),
		evAsk(0, coreOf), evAsk(1, coreOf), evAsk(2, coreOf), evAsk(3, coreOf), evAsk(4, coreOf),
	}
	fine := coded(0)
	w := wantTold(t, people, evs, fine, fine, fine, fine, read(1, 0), read(2, 0, 0), read(2, 0, 0), read(4, 0, 0, 0, 0), coded(1))
	if !slices.Equal(w.Left, []int{8, 7, 7, 5}) {
		t.Error(w)
	}
	five := append(slices.Clone(people), personOf(7, 4, 9))
	if w, all := impl.WorldPlay(five, evs); !isNoWorld(w) || len(all) != 0 {
		t.Error(w, all)
	}
}

// threePlain puts in three nodes without letters, and joins two of them. What is
// asked of these reads: all of it the first page, the first page and the second;
// the third node, which is alone, the first page.
func threePlain(who int) []impl.Ev {
	n := plainNodes(3)
	return []impl.Ev{evDo(who, putNode(n[0])), evDo(who, putNode(n[1])), evDo(who, putNode(n[2])), evDo(who, putEdge(edgeOf(0, n[0], n[1])))}
}

func behindThree(evs ...impl.Ev) []impl.Ev { return append(threePlain(0), evs...) }

func wantBehindThree(t *testing.T, p impl.Person, evs []impl.Ev, want ...impl.Told) impl.World {
	t.Helper()
	return wantTold(t, []impl.Person{p}, behindThree(evs...), append(make([]impl.Told, 4), want...)...)
}

// TestWorldReadsNoMoreThanLeft: just as many as are left, and one more.
func TestWorldReadsNoMoreThanLeft(t *testing.T) {
	alone, all := evAsk(0, nearOf(nodeOf(0, 2))), evAsk(0, coreOf)
	fill := evFill(0)
	core := []int{1, 1, 0}
	// Without room at hand all of it is three pages, each time.
	wantBehindThree(t, personOf(0, 0, 3), []impl.Ev{all, all, fill, all, alone}, read(3, core...), spent(0), coded(0), read(3, core...), spent(0))
	wantBehindThree(t, personOf(0, 0, 4), []impl.Ev{all, all, alone}, read(3, core...), spent(1), spent(0))
	wantBehindThree(t, personOf(0, 0, 2), []impl.Ev{all, alone, fill, alone, alone, alone}, spent(2), spent(0), coded(0), read(1), read(1), spent(0))
	wantBehindThree(t, personOf(0, 0, 7), []impl.Ev{all, alone, all, all}, read(3, core...), read(1), read(3, core...), spent(0))
	// With two at hand all of it is two pages, and then none.
	wantBehindThree(t, personOf(0, 2, 2), []impl.Ev{all, all, alone, fill, all}, read(2, core...), read(0, core...), read(0), coded(0), read(0, core...))
	// With one at hand the second page takes the place of the first.
	wantBehindThree(t, personOf(0, 1, 4), []impl.Ev{all, all, alone}, read(2, core...), read(2, core...), spent(0))
	wantBehindThree(t, personOf(0, 1, 5), []impl.Ev{all, alone, alone, all}, read(2, core...), read(1), read(0), read(1, core...))
}

// TestWorldBehindSpent: what was not read to its end is not at hand, and what
// was at hand still is; one who may read nothing more is answered from it.
func TestWorldBehindSpent(t *testing.T) {
	alone, all, fill := evAsk(0, nearOf(nodeOf(0, 2))), evAsk(0, coreOf), evFill(0)
	w := wantBehindThree(t, personOf(0, 2, 1), []impl.Ev{all}, spent(1))
	if !samePool(w.Pools[0], impl.Pool{Size: 2}) || w.Left[0] != 0 {
		t.Error(w)
	}
	w = wantBehindThree(t, personOf(0, 2, 1), []impl.Ev{all, alone, fill, alone, alone, all, alone}, spent(1), spent(0), coded(0), read(1), read(0), spent(0), read(0))
	if !samePool(w.Pools[0], impl.Pool{Size: 2, List: []impl.Page{pageOf(0, 0)}}) || w.Left[0] != 0 {
		t.Error(w)
	}
	wantBehindThree(t, personOf(0, 2, 1), []impl.Ev{alone, all, fill, all, alone}, read(1), spent(0), coded(0), read(1, 1, 1, 0), read(0))
	// The same is asked again behind a change, of pages that are at hand.
	cut := evDo(0, cutEdge(edgeOf(0, nodeOf(0, 0), nodeOf(0, 1))))
	wantBehindThree(t, personOf(0, 2, 2), []impl.Ev{all, cut, all}, read(2, 1, 1, 0), coded(0), read(0, 0, 0, 0))
}

// TestWorldSpendsOfOneAlone: who is spent and who is filled is one of several.
func TestWorldSpendsOfOneAlone(t *testing.T) {
	people := []impl.Person{personOf(0, 0, 3), personOf(0, 0, 4), personOf(0, 12, 5)}
	core := []int{1, 1, 0}
	fine := coded(0)
	w := wantTold(t, people, behindThree(
		evAsk(0, coreOf), evAsk(1, coreOf), evAsk(2, coreOf), evAsk(0, coreOf), evAsk(1, coreOf), evAsk(2, coreOf), evFill(1), evAsk(1, coreOf), evAsk(0, coreOf), evFill(2),
	), fine, fine, fine, fine, read(3, core...), read(3, core...), read(2, core...), spent(0), spent(1), read(0, core...), fine, read(3, core...), spent(0), fine)
	if !slices.Equal(w.Left, []int{0, 1, 5}) {
		t.Error(w)
	}
}

// TestWorldOfQuotaNothing: one who may read nothing is told what needs no page.
func TestWorldOfQuotaNothing(t *testing.T) {
	none := personOf(0, 12, 0)
	wantTold(t, []impl.Person{none}, []impl.Ev{evAsk(0, threesOf), evAsk(0, coreOf), evDo(0, putNode(nodeOf(0, 0))), evAsk(0, threesOf), evFill(0), evAsk(0, nearOf(nodeOf(0, 9)))},
		read(0, 0), read(0), coded(0), spent(0), coded(0), spent(0))
	// What is there is not seen, so nothing is read.
	wantTold(t, []impl.Person{none, personOf(1, 0, 1)}, []impl.Ev{evDo(1, putNode(nodeOf(1, 0))), evAsk(0, threesOf), evAsk(0, distOf(nodeOf(1, 0))), evAsk(1, threesOf), evAsk(1, threesOf)},
		coded(0), read(0, 0), read(0), read(1, 0), spent(0))
}

// TestWorldDenies: every label with every Clear.
func TestWorldDenies(t *testing.T) {
	a, b := nodeOf(0, 5), nodeOf(0, 6)
	for clear := range labelNames {
		for label := range labelNames {
			w := newWanted([]impl.Person{personOf(clear, 3, 9)})
			w.Graph = impl.Graph{Nodes: []impl.Node{a, b}}
			for _, op := range []impl.Op{putNode(nodeOf(label, 9)), putEdge(edgeOf(label, a, b)), goneNode(nodeOf(label, 9)), cutEdge(edgeOf(label, a, b))} {
				next, one := impl.WorldDo(w, evDo(0, op))
				if seenWith(label, clear) != (one.Code != 5) {
					t.Error(clear, op, one)
				}
				if one.Code == 5 {
					wantAsItWas(t, w, evDo(0, op), 5)
				} else {
					wantStep(t, w, evDo(0, op))
					w = next
				}
			}
		}
	}
}

// TestWorldDeniesAheadOfGraph: one who does not see so much is denied, whether it
// is there, is not, or there is no room.
func TestWorldDeniesAheadOfGraph(t *testing.T) {
	for _, g := range []impl.Graph{{}, smallGraph(), fullGraph()} {
		for clear := range labelNames {
			w := newWanted([]impl.Person{personOf(clear, 0, 0)})
			w.Graph = g
			for _, n := range append(fullGraph().Nodes, smallGraph().Nodes...) {
				if !seenWith(n.Label, clear) {
					wantAsItWas(t, w, evDo(0, putNode(n)), 5)
					wantAsItWas(t, w, evDo(0, goneNode(n)), 5)
				}
			}
			for _, e := range append(fullGraph().Edges, smallGraph().Edges...) {
				if !seenWith(e.Label, clear) {
					wantAsItWas(t, w, evDo(0, putEdge(e)), 5)
					wantAsItWas(t, w, evDo(0, cutEdge(e)), 5)
				}
			}
		}
	}
}

// TestWorldTurnedBelow: one who sees more turns what others see too, and they
// are told.
func TestWorldTurnedBelow(t *testing.T) {
	z, o := nodeOf(0, 0), nodeOf(0, 1)
	fine := coded(0)
	wantTold(t, []impl.Person{personOf(0, 8, 50), personOf(7, 8, 50)}, []impl.Ev{
		evAsk(0, coreOf), evDo(1, putNode(z)), evAsk(0, coreOf), evDo(1, putNode(o)), evAsk(0, distOf(z)), evDo(1, putEdge(edgeOf(0, z, o))), evAsk(0, distOf(z)),
		evDo(1, cutEdge(edgeOf(0, z, o))), evAsk(0, distOf(z)), evDo(0, putNode(o)), evDo(1, goneNode(o)), evAsk(0, distOf(z)), evDo(0, goneNode(o)), evDo(0, putNode(o)),
	}, read(0), fine, read(1, 0), fine, read(0, 0, -1), fine, read(1, 0, 1), fine, read(0, 0, -1), coded(2), fine, read(0, 0), coded(3), fine)
}

// TestWorldNodeGone: with a node its edges go, also those that the one who takes
// it away does not see; who sees them is answered without them.
func TestWorldNodeGone(t *testing.T) {
	z, o, a := nodeOf(0, 0), nodeOf(0, 1), nodeOf(1, 0)
	fine := coded(0)
	w := wantTold(t, []impl.Person{personOf(0, 8, 50), personOf(7, 8, 50), personOf(1, 8, 50)}, []impl.Ev{
		evDo(1, putNode(z)), evDo(1, putNode(o)), evDo(1, putNode(a)), evDo(1, putEdge(edgeOf(7, z, o))), evDo(1, putEdge(edgeOf(1, z, a))), evDo(1, putEdge(edgeOf(5, o, a))),
		evAsk(1, threesOf), evAsk(1, distOf(z)), evAsk(2, distOf(z)), evAsk(0, distOf(z)),
		evDo(0, goneNode(o)),
		evAsk(1, threesOf), evAsk(1, distOf(z)), evAsk(2, distOf(z)), evAsk(0, distOf(z)), evAsk(1, nearOf(z)),
		evDo(0, putNode(o)), evAsk(1, distOf(z)), evDo(1, cutEdge(edgeOf(7, z, o))),
	}, fine, fine, fine, fine, fine, fine, read(5, 1), read(0, 0, 1, 1), read(3, 0, -1, 1), read(1, 0, -1),
		fine, read(0, 0), read(0, 0, 1), read(0, 0, 1), read(0, 0), read(0, 64), fine, read(0, 0, -1, 1), coded(3))
	if !slices.Equal(w.Graph.Edges, []impl.Edge{edgeOf(1, z, a)}) {
		t.Error(w)
	}
}

// TestWorldAsksAgain: the same question behind nothing, behind a change that is
// seen, behind one that is not, and behind one that was not done, by one and by
// another who sees as much.
func TestWorldAsksAgain(t *testing.T) {
	z, o, a, b := nodeOf(0, 0), nodeOf(0, 1), nodeOf(1, 0), nodeOf(2, 0)
	people := []impl.Person{personOf(1, 0, 100), personOf(7, 0, 100), personOf(1, 12, 100), personOf(2, 0, 100)}
	begin := []impl.Ev{evDo(1, putNode(z)), evDo(1, putNode(o)), evDo(1, putNode(a)), evDo(1, putNode(b)), evDo(1, putEdge(edgeOf(0, z, o)))}
	turns := []struct {
		op   impl.Op
		want map[int]string
	}{
		{putEdge(edgeOf(1, o, a)), map[int]string{0: "[0 1 2]", 1: "[0 1 2 -1]", 3: "[0 1 -1]"}},
		{putEdge(edgeOf(2, o, b)), map[int]string{0: "[0 1 -1]", 1: "[0 1 -1 2]", 3: "[0 1 2]"}},
		{putEdge(edgeOf(3, a, b)), map[int]string{0: "[0 1 -1]", 1: "[0 1 -1 -1]", 3: "[0 1 -1]"}},
		{putEdge(edgeOf(7, z, b)), map[int]string{0: "[0 1 -1]", 1: "[0 1 -1 1]", 3: "[0 1 -1]"}},
		{cutEdge(edgeOf(0, z, o)), map[int]string{0: "[0 -1 -1]", 1: "[0 -1 -1 -1]", 3: "[0 -1 -1]"}},
		{goneNode(a), map[int]string{0: "[0 1]", 1: "[0 1 -1]", 3: "[0 1 -1]"}},
		{goneNode(z), map[int]string{0: "[]", 1: "[]", 3: "[]"}},
		{putNode(nodeOf(4, 0)), map[int]string{0: "[0 1 -1]", 1: "[0 1 -1 -1 -1]", 3: "[0 1 -1]"}},
		{putEdge(edgeOf(0, z, o)), map[int]string{0: "[0 1 -1]", 1: "[0 1 -1 -1]", 3: "[0 1 -1]"}},
	}
	for _, turn := range turns {
		evs := slices.Clone(begin)
		for range 2 {
			for who := range people {
				evs = append(evs, evAsk(who, distOf(z)), evAsk(who, distOf(z)))
			}
			evs = append(evs, evDo(1, turn.op))
		}
		for who := range people {
			evs = append(evs, evAsk(who, distOf(z)))
		}
		_, all := wantPlay(t, people, evs)
		for i := range people {
			early, late := all[len(begin)+2*i], all[len(begin)+9+2*i]
			if again := all[len(begin)+2*i+1]; !slices.Equal(again.Answer, early.Answer) || i != 2 && again.Reads != early.Reads || i == 2 && again.Reads != 0 {
				t.Error(turn.op, i, early, again)
			}
			want := turn.want[i%2*i]
			if fmt.Sprint(late.Answer) != want {
				t.Error(turn.op, i, late, want)
			}
		}
	}
}

// TestWorldWrongEvents: nobody's, of no kind, or with a wrong part.
func TestWorldWrongEvents(t *testing.T) {
	fine := []impl.Ev{evDo(1, putNode(nodeOf(0, 7))), evAsk(1, coreOf), evFill(1)}
	worlds := []impl.World{smallWorld(), fullWorld(), newWanted([]impl.Person{{}, {}})}
	wild := append([]int{4, 1<<32 + 1, -1<<32 + 1, 1 << 31, math.MinInt, math.MaxInt}, wildNumbers...)
	for _, w := range worlds {
		for _, who := range append(wild, len(w.People), -len(w.People)) {
			for _, ev := range fine {
				if ev.Who = who; who < 0 || who >= len(w.People) {
					wantAsItWas(t, w, ev, 1)
				}
			}
		}
		for _, kind := range append(wild, 0, 5, 6) {
			for _, ev := range fine {
				ev.Kind = kind
				wantAsItWas(t, w, ev, 1)
			}
		}
		for _, q := range wrongQueries() {
			wantAsItWas(t, w, evAsk(1, q), 1)
		}
		for _, op := range wrongOps() {
			wantAsItWas(t, w, evDo(0, op), 1)
			wantAsItWas(t, w, evDo(1, op), 1)
		}
	}
}

// wrongOps are each wrong in one thing, so that their label is -1.
func wrongOps() []impl.Op {
	n, e := nodeOf(1, 7), edgeOf(3, nodeOf(0, 0), nodeOf(1, 3))
	list := []impl.Op{{}, {Kind: 1, Node: n, Edge: e}, {Kind: 4, Node: n, Edge: e}, {Kind: 2, Node: n, Edge: e}, {Kind: 3, Node: n, Edge: e}, {Kind: 2}, {Kind: 3}, {Kind: 2, Node: n}, {Kind: 3, Node: n}, {Kind: 1, Edge: e}, {Kind: 4, Edge: e}, putEdge(edgeOf(3, e.B, e.A)), putEdge(edgeOf(3, e.A, e.A)), putEdge(edgeOf(2, e.A, e.B)), cutEdge(edgeOf(0, e.A, e.B))}
	for _, wild := range wildNumbers {
		if wild < 0 || wild > 40 {
			list = append(list, putNode(nodeOf(0, wild)), goneNode(nodeOf(0, wild)), putEdge(edgeOf(7, nodeOf(0, 0), nodeOf(1, wild))), cutEdge(edgeOf(7, nodeOf(0, wild), e.B)))
		}
		if !isLabel(wild) {
			list = append(list, putNode(nodeOf(wild, 0)), goneNode(nodeOf(wild, 0)), putEdge(edgeOf(wild, e.A, e.B)), cutEdge(edgeOf(wild, e.A, e.B)), impl.Op{Kind: wild, Node: n}, impl.Op{Kind: wild, Edge: e})
		}
	}
	return list
}

// TestWorldLooksAtNoOtherPart: a kind has no use for the part of another.
func TestWorldLooksAtNoOtherPart(t *testing.T) {
	op := impl.Op{Kind: math.MaxInt, Node: nodeOf(-1, 99), Edge: edgeOf(9, nodeOf(8, 8), nodeOf(-8, -8))}
	q := queryOf(math.MinInt, nodeOf(99, -99))
	for who := range 3 {
		for _, ev := range []impl.Ev{evDo(who, putNode(nodeOf(0, 7))), evDo(who, goneNode(nodeOf(0, 0))), evAsk(who, threesOf), evAsk(who, nearOf(nodeOf(0, 0))), evFill(who)} {
			full := ev
			if ev.Kind != 1 {
				full.Op = op
			}
			if ev.Kind != 2 {
				full.Query = q
			}
			w, one := impl.WorldDo(smallWorld(), ev)
			other, same := impl.WorldDo(smallWorld(), full)
			if one.Code == 1 || !sameTold(one, same) || !sameWorld(w, other) {
				t.Error(ev, one, same)
			}
			wantStep(t, smallWorld(), full)
		}
	}
}

// TestWorldOfBrokenWorlds: nothing is left, whatever happens.
func TestWorldOfBrokenWorlds(t *testing.T) {
	for i, w := range brokenWorlds() {
		for _, ev := range []impl.Ev{evDo(0, putNode(nodeOf(0, 7))), evAsk(1, coreOf), evFill(2), evFill(-1), {}, evDo(0, putNode(nodeOf(7, 7)))} {
			if next, one := impl.WorldDo(w, ev); !isNoWorld(next) || !sameTold(one, coded(1)) {
				t.Fatal(i, ev, next, one)
			}
		}
	}
}

func TestWorldPlayBounds(t *testing.T) {
	people := []impl.Person{personOf(0, 4, 6), personOf(7, 4, 6)}
	for count := range 85 {
		evs := make([]impl.Ev, count)
		for i := range evs {
			evs[i] = evFill(i % 3)
		}
		w, all := impl.WorldPlay(people, evs)
		seen, purged := impl.WorldSeen(people, evs, 0), impl.WorldPurge(people, evs, 0)
		if count > 80 {
			if !isNoWorld(w) || len(all)+len(seen) != 0 {
				t.Error(count, w, all, seen)
			}
		} else if len(all) != count || len(seen) != (count+2)/3 || !sameWorld(w, newWanted(people)) {
			t.Error(count, w, all, seen)
		}
		if len(purged) != (count+2)/3 {
			t.Error(count, purged)
		}
	}
	r := rand.New(rand.NewSource(75))
	evs := randomPlay(r, people, 80)
	wantPlay(t, people, evs)
	wantPlay(t, people, append(evs, evFill(0)))
	wantPlay(t, people, slices.Repeat(evs, 20))
}

// TestWorldPlayOfWrongPeople: nothing is told, to no one.
func TestWorldPlayOfWrongPeople(t *testing.T) {
	evs := []impl.Ev{evDo(0, putNode(nodeOf(0, 0))), evAsk(0, threesOf), evFill(0), evFill(9)}
	for _, people := range crowds() {
		w, all := impl.WorldPlay(people, evs)
		if !isNoWorld(w) || len(all) != 0 || len(impl.WorldSeen(people, evs, 7)) != 0 {
			t.Error(people, w, all)
		}
	}
}

// wantSeen holds what is seen and what is purged against the words above.
func wantSeen(t *testing.T, people []impl.Person, evs []impl.Ev, clear int) {
	t.Helper()
	_, all := playWanted(people, evs)
	var seen []impl.Told
	var kept []impl.Ev
	for i, ev := range evs {
		if i < len(all) && lowWanted(people, ev, clear) {
			seen = append(seen, all[i])
		}
		if keptWanted(people, ev, clear) {
			kept = append(kept, ev)
		}
	}
	if got := impl.WorldSeen(people, evs, clear); !sameTolds(got, seen) {
		t.Fatalf("%v %v with %d: seen %v, not %v", people, evs, clear, got, seen)
	}
	if got := impl.WorldPurge(people, evs, clear); !slices.Equal(got, kept) {
		t.Fatalf("%v %v with %d: purged %v, not %v", people, evs, clear, got, kept)
	}
}

func TestWorldSeenAndPurge(t *testing.T) {
	r := rand.New(rand.NewSource(76))
	for range 25 {
		people := randomPeople(r)
		evs := randomPlay(r, people, []int{10, 40, 80, 81, 90}[r.Intn(5)])
		for clear := range labelNames {
			wantSeen(t, people, evs, clear)
		}
	}
}

// TestWorldSeenAndPurgeWrittenOut has for each label what is of those who see no
// more, and what is kept with it.
func TestWorldSeenAndPurgeWrittenOut(t *testing.T) {
	people := []impl.Person{personOf(0, 4, 9), personOf(1, 4, 9), personOf(2, 4, 9), personOf(7, 4, 9)}
	evs := []impl.Ev{
		evDo(3, putNode(nodeOf(0, 1))), evDo(3, putNode(nodeOf(1, 1))), evDo(3, putNode(nodeOf(2, 1))), evDo(3, putNode(nodeOf(5, 1))),
		evDo(1, putNode(nodeOf(2, 2))), evDo(0, putNode(nodeOf(7, 2))), evDo(2, putNode(nodeOf(0, 1))), evAsk(0, threesOf), evAsk(1, coreOf), evAsk(3, coreOf),
		evFill(2), evFill(3), evFill(4), evDo(4, putNode(nodeOf(1, 3))), evDo(-1, putNode(nodeOf(3, 3))), evDo(3, impl.Op{}), evDo(1, impl.Op{}), {Kind: 9, Who: 2}, {Kind: 9, Who: 3},
		{Kind: 2, Who: 3, Op: putNode(nodeOf(0, 1)), Query: threesOf},
	}
	for clear, want := range []struct {
		seen   []impl.Told
		purged []int
	}{
		0: {[]impl.Told{coded(5), read(1, 0)}, []int{0, 5, 6, 7}},
		1: {[]impl.Told{coded(5), coded(5), read(1, 0), read(2, 0, 0), coded(1)}, []int{0, 1, 4, 5, 6, 7, 8, 13, 16}},
		2: {[]impl.Told{coded(5), coded(2), read(1, 0), coded(0), coded(1)}, []int{0, 2, 4, 5, 6, 7, 10, 17}},
		3: {[]impl.Told{coded(5), coded(5), coded(2), read(1, 0), read(2, 0, 0), coded(0), coded(1), coded(1)}, []int{0, 1, 2, 4, 5, 6, 7, 8, 10, 13, 14, 16, 17}},
		4: {[]impl.Told{coded(5), read(1, 0)}, []int{0, 5, 6, 7}},
		5: {[]impl.Told{coded(5), coded(5), read(1, 0), read(2, 0, 0), coded(1)}, []int{0, 1, 3, 4, 5, 6, 7, 8, 13, 16}},
	} {
		if got := impl.WorldSeen(people, evs, clear); !sameTolds(got, want.seen) {
			t.Error(clear, got)
		}
		var kept []impl.Ev
		for _, place := range want.purged {
			kept = append(kept, evs[place])
		}
		if got := impl.WorldPurge(people, evs, clear); !slices.Equal(got, kept) {
			t.Error(clear, got)
		}
		wantSeen(t, people, evs, clear)
	}
	if got := impl.WorldPurge(people, evs, 7); len(got) != 19 || slices.Contains(got, evs[12]) {
		t.Error(got)
	}
}

// TestWorldSeenWithNoLabel: no one sees no more than what is no label.
func TestWorldSeenWithNoLabel(t *testing.T) {
	r := rand.New(rand.NewSource(77))
	people := []impl.Person{personOf(0, 4, 9), personOf(7, 4, 9)}
	evs := randomPlay(r, people, 60)
	for _, clear := range noLabels {
		if seen, purged := impl.WorldSeen(people, evs, clear), impl.WorldPurge(people, evs, clear); len(seen)+len(purged) != 0 {
			t.Error(clear, seen, purged)
		}
	}
}

// TestWorldPurgeOfAny: people and what happens may be too many, and wrong; what
// is of one whose Clear is no label is of no one who sees no more than another.
func TestWorldPurgeOfAny(t *testing.T) {
	r := rand.New(rand.NewSource(78))
	fine := []impl.Person{personOf(0, 4, 9), personOf(3, 4, 9), personOf(7, 4, 9)}
	for i, people := range crowds() {
		evs := randomPlay(r, fine, 12)
		for j := range evs {
			evs[j].Who = (evs[j].Who + j) % 6
		}
		wantSeen(t, people, evs, i%8)
	}
	many := slices.Repeat([]impl.Person{personOf(1, -1, 1000)}, 30)
	evs := slices.Repeat([]impl.Ev{evFill(29), evFill(30), evDo(99, putNode(nodeOf(1, 0))), evDo(99, putNode(nodeOf(2, 0)))}, 50)
	if got := impl.WorldPurge(many, evs, 5); len(got) != 100 || got[0] != evs[0] || got[1] != evs[2] {
		t.Error(len(got))
	}
	if got := impl.WorldPurge(nil, nil, 0); len(got) != 0 {
		t.Error(got)
	}
}

// unseenEv is something that those who see no more than clear can not see.
func unseenEv(r *rand.Rand, w impl.World, clear int) (impl.Ev, bool) {
	for range 60 {
		if ev := randomEv(r, w); !keptWanted(w.People, ev, clear) {
			return ev, true
		}
	}
	return impl.Ev{}, false
}

// turnedPlay is a play in which all that can not be seen is gone, and other such
// things happen in its stead.
func turnedPlay(r *rand.Rand, people []impl.Person, evs []impl.Ev, clear int) []impl.Ev {
	w := newWanted(people)
	var other []impl.Ev
	room := 80
	for _, ev := range evs {
		if keptWanted(people, ev, clear) {
			room--
		}
	}
	add := func(ev impl.Ev) {
		w, _ = stepWanted(w, ev)
		other = append(other, ev)
	}
	for _, ev := range evs {
		for room > 0 && r.Intn(3) > 0 {
			unseen, ok := unseenEv(r, w, clear)
			if !ok {
				break
			}
			add(unseen)
			room--
		}
		if keptWanted(people, ev, clear) {
			add(ev)
		}
	}
	return other
}

// otherRich is people of whom those who see more have other pools and quotas.
func otherRich(r *rand.Rand, people []impl.Person, clear int) []impl.Person {
	other := slices.Clone(people)
	for i, p := range people {
		if !seenWith(p.Clear, clear) {
			other[i] = personOf(p.Clear, r.Intn(13), r.Intn(101))
		}
	}
	return other
}

// TestWorldTellsNothingOfUnseen is promise 7: what those are told who see no more
// than so much is the same, answers, codes and reads, when all is purged that
// they can not see, when other such things happen, and when those who see more
// have other pools and quotas.
func TestWorldTellsNothingOfUnseen(t *testing.T) {
	r := rand.New(rand.NewSource(79))
	unlike, codes := 0, map[int]int{}
	for range 40 {
		people := randomPeople(r)
		evs := randomPlay(r, people, 40+r.Intn(41))
		for clear := range 7 {
			seen := impl.WorldSeen(people, evs, clear)
			for _, one := range seen {
				codes[one.Code]++
			}
			if got := impl.WorldSeen(people, impl.WorldPurge(people, evs, clear), clear); !sameTolds(got, seen) {
				t.Fatalf("%v %v with %d: purged %v, not %v", people, evs, clear, got, seen)
			}
			other := turnedPlay(r, people, evs, clear)
			if len(seen) > 0 && !slices.Equal(other, evs) {
				unlike++
			}
			if got := impl.WorldSeen(otherRich(r, people, clear), other, clear); !sameTolds(got, seen) {
				t.Fatalf("%v %v with %d: turned %v, not %v", people, other, clear, got, seen)
			}
			if !slices.Equal(impl.WorldPurge(people, other, clear), impl.WorldPurge(people, evs, clear)) {
				t.Fatal(people, other, clear)
			}
		}
	}
	for code := range 7 {
		if codes[code] < 20 {
			t.Error(code, codes)
		}
	}
	if unlike < 100 {
		t.Error(unlike)
	}
}

// TestWorldTwoPlays is promise 7 in two plays that are written out: they differ
// only in what the first one can not see.
func TestWorldTwoPlays(t *testing.T) {
	z, o, a, b := nodeOf(0, 0), nodeOf(0, 1), nodeOf(1, 0), nodeOf(1, 1)
	people := []impl.Person{personOf(0, 1, 5), personOf(1, 12, 100)}
	fine := coded(0)
	bare := []impl.Ev{
		evDo(0, putNode(z)), evDo(1, putNode(o)), evAsk(0, distOf(z)), evDo(0, putNode(a)), evDo(0, putEdge(edgeOf(0, z, o))),
		evAsk(0, distOf(z)), evAsk(0, nearOf(a)), evDo(1, goneNode(o)), evAsk(0, coreOf), evDo(0, goneNode(o)), evFill(0), evAsk(0, distOf(z)),
	}
	rich := []impl.Ev{
		evDo(1, putNode(a)), bare[0], evDo(1, putEdge(edgeOf(1, z, a))), bare[1], evDo(1, putNode(b)), evDo(1, putEdge(edgeOf(1, o, a))), evDo(1, putEdge(edgeOf(1, z, o))), bare[2], evAsk(1, coreOf), bare[3], bare[4],
		evAsk(1, distOf(z)), bare[5], evAsk(1, distOf(z)), bare[6], evFill(1), bare[7], evAsk(1, threesOf), bare[8], bare[9], bare[10], evDo(1, goneNode(a)), bare[11],
	}
	want := []impl.Told{fine, read(1, 0, -1), coded(5), fine, read(1, 0, 1), read(1), read(0, 0), coded(3), fine, read(0, 0)}
	for _, evs := range [][]impl.Ev{bare, rich} {
		if got := impl.WorldSeen(people, evs, 0); !sameTolds(got, want) {
			t.Error(got)
		}
		if !slices.Equal(impl.WorldPurge(people, evs, 0), bare) {
			t.Error(evs)
		}
		wantPlay(t, people, evs)
	}
}

// TestWorldAnswersWhatIsSeen is promise 8: each answer is that of the graph that
// is seen by then, and between two times that they are filled no one reads more
// than their Quota.
func TestWorldAnswersWhatIsSeen(t *testing.T) {
	r := rand.New(rand.NewSource(80))
	met := map[int]int{}
	for range 60 {
		people := randomPeople(r)
		evs := randomPlay(r, people, 80)
		_, all := impl.WorldPlay(people, evs)
		g, sum := impl.Graph{}, make([]int, len(people))
		for i, ev := range evs {
			one := all[i]
			switch {
			case ev.Who < 0 || ev.Who >= len(people) || one.Code == impl.GoForm:
				if !sameTold(one, coded(impl.GoForm)) {
					t.Fatal(i, ev, one)
				}
			case ev.Kind == impl.EvDo && one.Code != impl.ToldDenied:
				g, _ = impl.GraphDo(g, ev.Op)
			case ev.Kind == impl.EvFill:
				sum[ev.Who] = 0
			case ev.Kind == impl.EvAsk:
				p := people[ev.Who]
				sum[ev.Who] += one.Reads
				met[one.Code]++
				if one.Reads < 0 || sum[ev.Who] > p.Quota || one.Code == impl.ToldSpent && (len(one.Answer) > 0 || sum[ev.Who] != p.Quota) {
					t.Fatal(i, ev, one, sum)
				}
				if one.Code == impl.GoFine && !slices.Equal(one.Answer, impl.QueryAsk(impl.GraphView(g, p.Clear), ev.Query)) {
					t.Fatal(i, ev, one)
				}
			}
		}
	}
	if met[impl.GoFine] < 300 || met[impl.ToldSpent] < 100 {
		t.Error(met)
	}
}

func TestWorldOfGreatNumbers(t *testing.T) {
	for _, wild := range []int{math.MaxInt, math.MinInt, math.MaxInt - 1, math.MinInt + 1, math.MaxInt32, math.MinInt32, 1 << 62, -1 << 62, 1 << 32} {
		n := nodeOf(wild, wild)
		ev := impl.Ev{Kind: wild, Who: wild, Op: impl.Op{Kind: wild, Node: n, Edge: edgeOf(wild, n, n)}, Query: queryOf(wild, n)}
		p := personOf(wild, wild, wild)
		w := impl.World{People: []impl.Person{p}, Graph: impl.Graph{Nodes: []impl.Node{n}}, Pools: []impl.Pool{{Size: wild, List: []impl.Page{pageOf(wild, wild)}}}, Left: []int{wild}}
		if next, one := impl.WorldDo(w, ev); impl.WorldOk(w) || !isNoWorld(next) || !sameTold(one, coded(1)) || !impl.WorldSame(w, copyWorld(w)) {
			t.Error(wild, next, one)
		}
		if next, all := impl.WorldPlay([]impl.Person{p}, []impl.Ev{ev}); !isNoWorld(next) || len(all) != 0 {
			t.Error(wild, next, all)
		}
		if len(impl.WorldSeen([]impl.Person{p}, []impl.Ev{ev}, wild))+len(impl.WorldPurge([]impl.Person{p}, []impl.Ev{ev}, wild)) != 0 {
			t.Error(wild)
		}
		wantAsItWas(t, smallWorld(), ev, 1)
		for kind := 1; kind <= 3; kind++ {
			ev.Kind = kind
			wantAsItWas(t, smallWorld(), ev, 1)
		}
	}
}

// roomyList has behind its end what an append would write over.
func roomyList[T any](list []T, behind ...T) ([]T, []T) {
	whole := append(slices.Clone(list), behind...)
	return whole[:len(list)], whole
}

// roomyWorld is a world with room behind all its lists, and the same with what
// stands in that room.
func roomyWorld(w impl.World) (impl.World, impl.World) {
	var part, whole impl.World
	part.People, whole.People = roomyList(w.People, personOf(-5, -5, -5), personOf(0, 0, 0))
	part.Graph, whole.Graph = roomy(w.Graph)
	part.Left, whole.Left = roomyList(w.Left, -5, 0)
	var pools []impl.Pool
	for _, p := range w.Pools {
		list, wholeList := roomyPages(p.List)
		pools = append(pools, impl.Pool{Size: p.Size, List: list})
		whole.Pools = append(whole.Pools, impl.Pool{Size: p.Size, List: wholeList})
	}
	more := []impl.Pool{{Size: -5}, {Size: 0}}
	part.Pools, pools = roomyList(pools, more...)
	whole.Pools = append(whole.Pools, pools[len(w.Pools):]...)
	return part, whole
}

func scribblePools(list []impl.Pool) {
	for _, p := range list {
		scribblePages(p.List)
	}
	for i := range list[:cap(list)] {
		list[:cap(list)][i] = impl.Pool{Size: -9}
	}
}

func scribbleWorld(w impl.World) {
	for i := range w.People[:cap(w.People)] {
		w.People[:cap(w.People)][i] = personOf(-9, -9, -9)
	}
	scribbleGraph(w.Graph)
	scribblePools(w.Pools)
	scribbleNumbers(w.Left)
}

func scribbleTold(list []impl.Told) {
	for _, one := range list {
		scribbleNumbers(one.Answer)
	}
	for i := range list[:cap(list)] {
		list[:cap(list)][i] = impl.Told{Code: -9, Reads: -9}
	}
}

func TestWorldDoIsNewMemory(t *testing.T) {
	evs := []impl.Ev{evDo(0, putNode(nodeOf(0, 7))), evDo(0, putNode(nodeOf(7, 7))), evDo(1, goneNode(nodeOf(0, 0))), evDo(1, impl.Op{}), evAsk(0, coreOf), evAsk(1, coreOf), evAsk(1, threesOf), evAsk(2, coreOf), evAsk(0, impl.Query{}), evFill(0), evFill(2), evFill(9), {}}
	for i, plain := range append(append(worldsToTry()[:12], smallWorld()), brokenWorlds()[:40]...) {
		w, whole := roomyWorld(plain)
		kept := copyWorld(whole)
		hold := func(name string) {
			if !sameWorld(whole, kept) || !sameWorld(w, plain) {
				t.Fatal(i, name)
			}
		}
		impl.WorldOk(w)
		impl.WorldSame(w, w)
		hold("asked")
		for _, ev := range evs {
			next, one := impl.WorldDo(w, ev)
			text := fmt.Sprint(next, one)
			scribbleWorld(next)
			scribbleTold([]impl.Told{one})
			hold("done")
			again, same := impl.WorldDo(w, ev)
			if fmt.Sprint(again, same) != text {
				t.Fatal(i, ev, text)
			}
		}
	}
}

// TestWorldPoolsShareNothing: two pools of one argument may share their pages;
// those of an answer do not.
func TestWorldPoolsShareNothing(t *testing.T) {
	list := rowOfPages(3)
	w := impl.WorldNew([]impl.Person{personOf(0, 4, 9), personOf(0, 4, 9), personOf(0, 4, 9)})
	for i := range w.Pools {
		w.Pools[i].List = list
	}
	for _, ev := range []impl.Ev{evFill(0), evFill(8), evAsk(1, threesOf), evDo(2, putNode(nodeOf(0, 0))), evDo(2, putNode(nodeOf(1, 0)))} {
		next, _ := impl.WorldDo(w, ev)
		for i := range next.Pools {
			scribblePages(next.Pools[i].List)
			for _, p := range next.Pools[i+1:] {
				if !slices.Equal(p.List, rowOfPages(3)) {
					t.Fatal(ev, i, next.Pools)
				}
			}
		}
		if !slices.Equal(list, rowOfPages(3)) {
			t.Fatal(ev, list)
		}
	}
}

func TestWorldPlayIsNewMemory(t *testing.T) {
	r := rand.New(rand.NewSource(81))
	for range 12 {
		plain := randomPeople(r)
		happen := randomPlay(r, plain, 70)
		people, wholePeople := roomyList(plain, personOf(-5, -5, -5), personOf(0, 0, 0))
		evs, wholeEvs := roomyList(happen, evFill(-5), impl.Ev{})
		keptPeople, keptEvs := slices.Clone(wholePeople), slices.Clone(wholeEvs)
		tell := func() string {
			fresh := impl.WorldNew(people)
			w, all := impl.WorldPlay(people, evs)
			seen, purged := impl.WorldSeen(people, evs, 3), impl.WorldPurge(people, evs, 3)
			text := fmt.Sprint(fresh, w, all, seen, purged)
			impl.ToldSame(all, seen)
			if fmt.Sprint(fresh, w, all, seen, purged) != text {
				t.Fatal("compared")
			}
			scribbleWorld(fresh)
			scribbleWorld(w)
			scribbleTold(all)
			scribbleTold(seen)
			for i := range purged[:cap(purged)] {
				purged[:cap(purged)][i] = evFill(-9)
			}
			return text
		}
		first := tell()
		if again := tell(); first != again {
			t.Fatal(first, again)
		}
		if !slices.Equal(wholePeople, keptPeople) || !slices.Equal(wholeEvs, keptEvs) {
			t.Fatal("written into")
		}
	}
}

// TestWorldAnswersShareNothing: the same question is answered often in one play;
// to write over one answer, and over what is at hand, turns no other.
func TestWorldAnswersShareNothing(t *testing.T) {
	people := []impl.Person{personOf(0, 4, 100), personOf(0, 4, 100), personOf(0, 4, 100)}
	evs := threePlain(0)
	for i := range 30 {
		evs = append(evs, evAsk(i%3, []impl.Query{coreOf, distOf(nodeOf(0, 0)), nearOf(nodeOf(0, 0))}[i/3%3]))
	}
	for _, tell := range []func() (impl.World, []impl.Told){
		func() (impl.World, []impl.Told) { return impl.WorldPlay(people, evs) },
		func() (impl.World, []impl.Told) { return impl.World{}, impl.WorldSeen(people, evs, 0) },
	} {
		want := []string{"[1 1 0]", "[0 1 -1]", "[1]"}
		w, all := tell()
		for i := range w.Pools {
			scribblePages(w.Pools[i].List)
			for _, p := range w.Pools[i+1:] {
				if !slices.Equal(p.List, []impl.Page{pageOf(0, 0), pageOf(0, 1)}) && !slices.Equal(p.List, []impl.Page{pageOf(0, 1), pageOf(0, 0)}) {
					t.Fatal(i, w.Pools)
				}
			}
		}
		for i, one := range all[4:] {
			if fmt.Sprint(one.Answer) != want[i/3%3] {
				t.Fatal(i, one)
			}
			scribbleNumbers(one.Answer)
		}
	}
}
