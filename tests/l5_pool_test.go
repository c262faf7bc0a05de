package tests

import (
	"math"
	"math/rand"
	"slices"
	"testing"

	"loop.example/hagioscope/impl"
)

// The tests' own words for chapter 5 follow: pages are found byte by byte, and
// what is at hand is worked out from all that was ever used, looked through from
// the end, not by moving a page from one pool to the next.

func pageOf(label int, at int) impl.Page { return impl.Page{Label: label, At: at} }

// wildAts are no At of a page; many of them would be one if they were cut to
// fewer bits or wrapped round when a page's bytes are counted.
var wildAts = []int{
	-1, -2, -8, -999, -1000, 1000, 1001, 1024, 8000, 1 << 16, 1<<16 + 9, 1 << 29, 1 << 32, 1<<32 + 5, -1<<32 + 5,
	1 << 61, 1<<61 + 3, 1<<62 + 999, math.MaxInt32, math.MinInt32, math.MaxInt, math.MaxInt - 7, math.MinInt, math.MinInt + 8,
}

func isPage(p impl.Page) bool { return isLabel(p.Label) && 0 <= p.At && p.At <= 999 }

// spanWanted has each page of which a byte is asked for.
func spanWanted(label int, from int, to int) []impl.Page {
	if !isLabel(label) || from < 0 || to > 8000 {
		return nil
	}
	var span []impl.Page
	for byteAt := from; byteAt < to; byteAt++ {
		at := 0
		for left := byteAt; left >= 8; left -= 8 {
			at++
		}
		if page := pageOf(label, at); !slices.Contains(span, page) {
			span = append(span, page)
		}
	}
	return span
}

func poolWanted(p impl.Pool) bool {
	if p.Size < 0 || p.Size > 12 || len(p.List) > p.Size {
		return false
	}
	seen := map[impl.Page]int{}
	for _, page := range p.List {
		seen[page]++
		if !isPage(page) || seen[page] > 1 {
			return false
		}
	}
	return true
}

// usedIn is all pages in the order in which they would have been used to come
// to lie as they do in a pool.
func usedIn(p impl.Pool) []impl.Page {
	used := slices.Clone(p.List)
	slices.Reverse(used)
	return used
}

// lastUsed has of all that was used each page once, the last use first, and of
// these as many as there may be.
func lastUsed(used []impl.Page, size int) []impl.Page {
	var last []impl.Page
	for i := len(used) - 1; i >= 0 && len(last) < size; i-- {
		if !slices.Contains(last, used[i]) {
			last = append(last, used[i])
		}
	}
	return last
}

// missesWanted counts the pages that were not among the last used ones by then.
func missesWanted(before []impl.Page, list []impl.Page, size int) int {
	misses := 0
	all := slices.Concat(before, list)
	for i := len(before); i < len(all); i++ {
		if !slices.Contains(lastUsed(all[:i], size), all[i]) {
			misses++
		}
	}
	return misses
}

func allWanted(p impl.Pool, list []impl.Page) (impl.Pool, int) {
	wrong := slices.ContainsFunc(list, func(page impl.Page) bool { return !isPage(page) })
	if wrong || !poolWanted(p) {
		return impl.Pool{}, 0
	}
	before := usedIn(p)
	return impl.Pool{Size: p.Size, List: lastUsed(slices.Concat(before, list), p.Size)}, missesWanted(before, list, p.Size)
}

func samePool(a impl.Pool, b impl.Pool) bool {
	return a.Size == b.Size && slices.Equal(a.List, b.List)
}

func isNoPool(p impl.Pool) bool { return p.Size == 0 && len(p.List) == 0 }

// wantUses holds one call for all pages, and a call for each, against the words
// above.
func wantUses(t *testing.T, p impl.Pool, list []impl.Page) {
	t.Helper()
	want, misses := allWanted(p, list)
	if got, count := impl.PoolAll(p, list); !samePool(got, want) || count != misses {
		t.Fatalf("%v with %v: %v %d, not %v %d", p, list, got, count, want, misses)
	}
	if !poolWanted(p) {
		return
	}
	one, count := p, 0
	for i, page := range list {
		next, there := impl.PoolUse(one, page)
		if want, misses := allWanted(one, list[i:i+1]); !samePool(next, want) || there != (isPage(page) && misses == 0) {
			t.Fatalf("%v with %v: %v %v, not %v", one, page, next, there, want)
		}
		if !isPage(page) {
			return
		}
		if !there {
			count++
		}
		one = next
	}
	if !samePool(one, want) || count != misses {
		t.Fatalf("%v with %v, one by one: %v %d, not %v %d", p, list, one, count, want, misses)
	}
}

// rowOfPages has as many pages as are asked for, no two the same, of unlike
// labels and places.
func rowOfPages(count int) []impl.Page {
	var pages []impl.Page
	for i := range count {
		pages = append(pages, pageOf(i%8, []int{0, 999, 7, 1, 998}[i%5]))
	}
	return pages
}

// poolsToTry are of all sizes, with nothing, with some, and full.
func poolsToTry() []impl.Pool {
	var pools []impl.Pool
	for size := range 13 {
		for count := range size + 1 {
			pools = append(pools, impl.Pool{Size: size, List: rowOfPages(count)})
		}
	}
	return append(pools, impl.Pool{Size: 3, List: []impl.Page{}})
}

// wrongPools are each wrong in one thing.
func wrongPools() []impl.Pool {
	var pools []impl.Pool
	for _, wild := range []int{13, 14, 16, 999, -1, -12, 1<<32 + 4, -1<<32 + 4, 1 << 61, math.MaxInt, math.MinInt} {
		pools = append(pools, impl.Pool{Size: wild}, impl.Pool{Size: wild, List: rowOfPages(1)}, impl.Pool{Size: wild, List: rowOfPages(13)})
	}
	for size := range 13 {
		pools = append(pools, impl.Pool{Size: size, List: rowOfPages(size + 1)})
		for _, place := range stride(size, 0, 1) {
			for _, other := range stride(place, 0, 1) {
				twice := rowOfPages(size)
				twice[place] = twice[other]
				pools = append(pools, impl.Pool{Size: size, List: twice})
			}
			for _, wrong := range []impl.Page{pageOf(8, 0), pageOf(-1, 0), pageOf(0, -1), pageOf(7, 1000)} {
				list := rowOfPages(size)
				list[place] = wrong
				pools = append(pools, impl.Pool{Size: size, List: list})
			}
		}
	}
	return append(pools, impl.Pool{Size: 3, List: rowOfPages(40)}, impl.Pool{Size: 12, List: []impl.Page{{}, {}}})
}

func wrongPages() []impl.Page {
	var pages []impl.Page
	for _, wild := range noLabels {
		pages = append(pages, pageOf(wild, 0), pageOf(wild, 999))
	}
	for _, wild := range wildAts {
		pages = append(pages, pageOf(0, wild), pageOf(7, wild))
	}
	return append(pages, pageOf(-1, -1), pageOf(8, 1000))
}

func TestPoolBounds(t *testing.T) {
	if impl.PageMost != 8 || impl.PoolMost != 12 {
		t.Error(impl.PageMost, impl.PoolMost)
	}
}

func TestPageOk(t *testing.T) {
	for label := range labelNames {
		for at := -1100; at <= 1100; at++ {
			if impl.PageOk(pageOf(label, at)) != (at > -1 && at < 1000) {
				t.Error(label, at)
			}
		}
	}
	for _, page := range wrongPages() {
		if impl.PageOk(page) {
			t.Error(page)
		}
	}
}

func wantSpan(t *testing.T, label int, from int, to int) {
	t.Helper()
	if got, want := impl.PageSpan(label, from, to), spanWanted(label, from, to); !slices.Equal(got, want) {
		t.Errorf("%d from %d to %d: %v, not %v", label, from, to, got, want)
	}
}

// TestPageSpan: all bytes near the first pages, and near the last one.
func TestPageSpan(t *testing.T) {
	for from := -2; from <= 40; from++ {
		for to := -2; to <= 42; to++ {
			wantSpan(t, (from+to+8)%8, from, to)
			wantSpan(t, 3, from+7960, to+7960)
		}
	}
	for label := range labelNames {
		wantSpan(t, label, 0, 1)
		wantSpan(t, label, 5, 99)
	}
}

// TestPageSpanWrittenOut: the bytes of one place, bytes that begin and end where
// a page does, one place beside, and all that there are.
func TestPageSpanWrittenOut(t *testing.T) {
	for _, c := range []struct{ from, to, first, last int }{
		{0, 1, 0, 0}, {7, 8, 0, 0}, {8, 9, 1, 1}, {7999, 8000, 999, 999}, {7992, 7993, 999, 999}, {7991, 7992, 998, 998},
		{0, 8, 0, 0}, {8, 16, 1, 1}, {16, 40, 2, 4}, {7992, 8000, 999, 999},
		{0, 7, 0, 0}, {0, 9, 0, 1}, {7, 16, 0, 1}, {9, 16, 1, 1}, {8, 15, 1, 1}, {8, 17, 1, 2}, {7, 17, 0, 2}, {7, 9, 0, 1},
		{7991, 8000, 998, 999}, {0, 8000, 0, 999}, {1, 7999, 0, 999},
	} {
		span := impl.PageSpan(5, c.from, c.to)
		if len(span) != c.last-c.first+1 {
			t.Fatal(c, span)
		}
		for i, page := range span {
			if page != pageOf(5, c.first+i) || !impl.PageOk(page) {
				t.Error(c, page)
			}
		}
	}
}

func TestPageSpanOfNone(t *testing.T) {
	wild := append([]int{8001, 8007, 8008}, wildAts...)
	for _, label := range append(slices.Clone(everyLabel), noLabels...) {
		for _, at := range []int{0, 1, 7, 8, 9, 7999, 8000, 8001, 8008} {
			for _, w := range wild {
				if w < 0 || w > 8000 {
					for _, span := range [][]impl.Page{impl.PageSpan(label, at, w), impl.PageSpan(label, w, at), impl.PageSpan(label, w, w)} {
						if len(span) != 0 {
							t.Fatal(label, at, w, span)
						}
					}
				}
			}
			if len(impl.PageSpan(label, at, at)) != 0 || len(impl.PageSpan(label, at, at-1)) != 0 || len(impl.PageSpan(label, at+9, at)) != 0 {
				t.Error(label, at)
			}
		}
	}
	for _, label := range noLabels {
		wantSpan(t, label, 0, 20)
	}
}

func TestPoolOk(t *testing.T) {
	for _, p := range poolsToTry() {
		if !impl.PoolOk(p) || !poolWanted(p) {
			t.Error(p)
		}
	}
	for _, p := range wrongPools() {
		if impl.PoolOk(p) || poolWanted(p) {
			t.Error(p)
		}
	}
	if !impl.PoolOk(impl.Pool{}) || !impl.PoolOk(impl.Pool{Size: 12, List: rowOfPages(12)}) || !impl.PoolOk(impl.Pool{Size: 2, List: []impl.Page{pageOf(0, 1), pageOf(1, 0)}}) {
		t.Error("pools that are ok")
	}
}

// TestPoolUseOfEach: every page of each pool, the first and the last among them,
// and one that is not there.
func TestPoolUseOfEach(t *testing.T) {
	for _, p := range poolsToTry() {
		for i, page := range p.List {
			got, there := impl.PoolUse(p, page)
			want := append([]impl.Page{page}, append(slices.Clone(p.List[:i]), p.List[i+1:]...)...)
			if !there || !samePool(got, impl.Pool{Size: p.Size, List: want}) {
				t.Error(p, page, got, there)
			}
			wantUses(t, p, []impl.Page{page, page})
		}
		fresh := pageOf(3, 500)
		got, there := impl.PoolUse(p, fresh)
		want := append([]impl.Page{fresh}, p.List...)
		if there || !samePool(got, impl.Pool{Size: p.Size, List: want[:min(len(want), p.Size)]}) {
			t.Error(p, got, there)
		}
		wantUses(t, p, []impl.Page{fresh})
		wantUses(t, p, []impl.Page{fresh, fresh})
	}
}

// TestPoolUseTellsPagesApart: by both parts of a page.
func TestPoolUseTellsPagesApart(t *testing.T) {
	pages := []impl.Page{pageOf(0, 0), pageOf(0, 1), pageOf(1, 0), pageOf(1, 1), pageOf(0, 999), pageOf(7, 999), pageOf(7, 0), pageOf(1, 999), pageOf(0, 64), pageOf(0, 8)}
	for _, a := range pages {
		for _, b := range pages {
			p, there := impl.PoolUse(impl.Pool{Size: 2, List: []impl.Page{a}}, b)
			want := []impl.Page{b, a}
			if a == b {
				want = want[:1]
			}
			if there != (a == b) || !slices.Equal(p.List, want) {
				t.Error(a, b, p, there)
			}
		}
	}
}

func TestPoolOfSizeNothing(t *testing.T) {
	for _, list := range [][]impl.Page{nil, {}, {{}}, {{}, {}}, rowOfPages(20)} {
		p, misses := impl.PoolAll(impl.Pool{}, list)
		if !isNoPool(p) || misses != len(list) {
			t.Error(list, p, misses)
		}
		wantUses(t, impl.Pool{List: []impl.Page{}}, list)
	}
}

// TestPoolAllOfNoPages leaves a pool as it was.
func TestPoolAllOfNoPages(t *testing.T) {
	for _, p := range poolsToTry() {
		for _, list := range [][]impl.Page{nil, {}} {
			if got, misses := impl.PoolAll(p, list); !samePool(got, p) || misses != 0 {
				t.Error(p, got, misses)
			}
		}
	}
}

// everyRow goes through all rows of so many pages of a few.
func everyRow(pages []impl.Page, length int, visit func(list []impl.Page)) {
	list := make([]impl.Page, length)
	var fill func(at int)
	fill = func(at int) {
		if at == length {
			visit(list)
			return
		}
		for _, page := range pages {
			list[at] = page
			fill(at + 1)
		}
	}
	fill(0)
}

// TestPoolOfAllRows: all rows of up to six uses of four pages, in pools of sizes about
// as great, with nothing and with some of these pages.
func TestPoolOfAllRows(t *testing.T) {
	pages := rowOfPages(4)
	starts := [][]impl.Page{nil, {pages[2]}, {pages[3], pages[0]}, {pages[1], pages[2], pages[0]}, {pages[0], pages[1], pages[2], pages[3]}}
	for length := range 7 {
		everyRow(pages, length, func(list []impl.Page) {
			for size := range 6 {
				for _, start := range starts {
					if len(start) <= size {
						wantUses(t, impl.Pool{Size: size, List: start}, list)
					}
				}
			}
		})
	}
}

func randomPages(r *rand.Rand, count int, kinds int) []impl.Page {
	known := rowOfPages(40)[:kinds]
	var list []impl.Page
	for range count {
		list = append(list, known[r.Intn(kinds)])
	}
	return list
}

func TestPoolLongRuns(t *testing.T) {
	r := rand.New(rand.NewSource(21))
	for range 300 {
		size := r.Intn(13)
		kinds := 1 + r.Intn(20)
		start := lastUsed(randomPages(r, r.Intn(30), kinds), size)
		wantUses(t, impl.Pool{Size: size, List: start}, randomPages(r, r.Intn(60), kinds))
	}
	p, misses := impl.PoolAll(impl.Pool{Size: 12}, impl.PageSpan(2, 0, 8000))
	if misses != 1000 || len(p.List) != 12 || p.List[0] != pageOf(2, 999) || p.List[11] != pageOf(2, 988) {
		t.Error(p, misses)
	}
}

// TestPoolLastUsedAreAtHand is the first half of promise 5: what is at hand is
// the last pages that were used, in that order, and all that was used, where
// there is room.
func TestPoolLastUsedAreAtHand(t *testing.T) {
	r := rand.New(rand.NewSource(22))
	for size := range 13 {
		for range 60 {
			list := randomPages(r, 1+r.Intn(40), 1+r.Intn(16))
			p, misses := impl.PoolAll(impl.Pool{Size: size}, list)
			if !impl.PoolOk(p) || !samePool(p, impl.Pool{Size: size, List: lastUsed(list, size)}) {
				t.Fatal(size, list, p)
			}
			met := map[impl.Page]int{}
			for _, page := range list {
				met[page]++
			}
			if len(p.List) != min(size, len(met)) || misses < len(met) || misses > len(list) || len(met) <= size && misses != len(met) {
				t.Fatal(size, list, p, misses)
			}
			for i, page := range p.List {
				again, there := impl.PoolUse(p, page)
				if !there || again.List[0] != page || len(again.List) != len(p.List) {
					t.Fatal(size, i, p, again)
				}
			}
		}
	}
}

// TestPoolGreaterHasAllOfLesser is the other half of promise 5: with the same
// uses, from nothing on or from the first pages of the same, a greater pool has
// all that a lesser one has, and each page that fails in it fails in the other.
func TestPoolGreaterHasAllOfLesser(t *testing.T) {
	r := rand.New(rand.NewSource(23))
	fewer := 0
	for range 80 {
		kinds := 1 + r.Intn(18)
		before := randomPages(r, r.Intn(20), kinds)
		list := randomPages(r, 30, kinds)
		pools := make([]impl.Pool, 13)
		misses := make([]int, 13)
		for size := range pools {
			pools[size] = impl.Pool{Size: size, List: lastUsed(before, size)}
			_, misses[size] = impl.PoolAll(pools[size], list)
			if size > 0 && misses[size] > misses[size-1] {
				t.Fatal(size, misses, before, list)
			}
		}
		if misses[12] < misses[0] {
			fewer++
		}
		for _, page := range list {
			lesserHad := false
			for size := range pools {
				next, there := impl.PoolUse(pools[size], page)
				if lesserHad && !there {
					t.Fatal(size, page, pools[size])
				}
				if size > 0 && !slices.Equal(next.List[:min(len(next.List), size-1)], pools[size-1].List) {
					t.Fatal(size, page, pools[size-1], next)
				}
				lesserHad = there
				pools[size] = next
			}
		}
	}
	if fewer < 40 {
		t.Error(fewer)
	}
}

func TestPoolOfWrongPools(t *testing.T) {
	lists := [][]impl.Page{nil, {{}}, rowOfPages(3), {pageOf(-1, 0)}, {{}, pageOf(0, 1000)}}
	for _, p := range wrongPools() {
		for _, page := range append(rowOfPages(14), wrongPages()...) {
			if got, there := impl.PoolUse(p, page); there || !isNoPool(got) {
				t.Fatal(p, page, got, there)
			}
		}
		for _, list := range lists {
			if got, misses := impl.PoolAll(p, list); misses != 0 || !isNoPool(got) {
				t.Fatal(p, list, got, misses)
			}
		}
	}
}

// TestPoolOfWrongPages: a page that is not ok, alone and at each place among
// others, those behind and ahead of it being at hand or not.
func TestPoolOfWrongPages(t *testing.T) {
	for _, p := range poolsToTry() {
		for _, wrong := range wrongPages() {
			if got, there := impl.PoolUse(p, wrong); there || !isNoPool(got) {
				t.Fatal(p, wrong, got, there)
			}
			for place := range 4 {
				list := slices.Insert(rowOfPages(3), place, wrong)
				if got, misses := impl.PoolAll(p, list); misses != 0 || !isNoPool(got) {
					t.Fatal(p, list, got, misses)
				}
			}
		}
	}
}

func TestPoolSame(t *testing.T) {
	if !impl.PoolSame(impl.Pool{Size: 2}, impl.Pool{Size: 2, List: []impl.Page{}}) || !impl.PoolSame(impl.Pool{List: []impl.Page{}}, impl.Pool{}) {
		t.Error("nothing")
	}
	pools := append(poolsToTry(), wrongPools()...)
	for i, a := range pools {
		if !impl.PoolSame(a, impl.Pool{Size: a.Size, List: slices.Clone(a.List)}) {
			t.Error(i)
		}
		for j, b := range pools {
			if impl.PoolSame(a, b) != samePool(a, b) {
				t.Error(i, j)
			}
		}
	}
	whole := impl.Pool{Size: 5, List: rowOfPages(4)}
	for place := range whole.List {
		for i, turn := range []func(p *impl.Pool){
			func(p *impl.Pool) { p.List[place].Label++ },
			func(p *impl.Pool) { p.List[place].At += 1 << 32 },
			func(p *impl.Pool) { p.List[place].At-- },
			func(p *impl.Pool) { p.List = slices.Delete(p.List, place, place+1) },
			func(p *impl.Pool) { p.List = p.List[:place] },
			func(p *impl.Pool) { p.List = append(p.List, p.List[place]) },
			func(p *impl.Pool) { p.List[place], p.List[(place+1)%4] = p.List[(place+1)%4], p.List[place] },
			func(p *impl.Pool) { p.Size += place + 1 },
			func(p *impl.Pool) { p.Size = -p.Size },
		} {
			turned := impl.Pool{Size: whole.Size, List: rowOfPages(4)}
			turn(&turned)
			if impl.PoolSame(turned, whole) || impl.PoolSame(whole, turned) {
				t.Error(place, i)
			}
		}
	}
}

func scribblePages(list []impl.Page) {
	for i := range list[:cap(list)] {
		list[:cap(list)][i] = pageOf(-9, -9)
	}
}

// roomyPages has behind its end what an append would write over.
func roomyPages(list []impl.Page) ([]impl.Page, []impl.Page) {
	whole := append(slices.Clone(list), pageOf(-5, -5), pageOf(0, 0), pageOf(1, 1))
	return whole[:len(list)], whole
}

func TestPoolAnswersAreNewMemory(t *testing.T) {
	for i, plain := range append(poolsToTry(), wrongPools()...) {
		list, wholePool := roomyPages(plain.List)
		p := impl.Pool{Size: plain.Size, List: list}
		for _, uses := range [][]impl.Page{nil, rowOfPages(1), rowOfPages(5), rowOfPages(15), {pageOf(0, 3), pageOf(0, 1000)}} {
			used, wholeUses := roomyPages(uses)
			keptPool, keptUses := slices.Clone(wholePool), slices.Clone(wholeUses)
			answers := func() []impl.Pool {
				all, _ := impl.PoolAll(p, used)
				first, _ := impl.PoolUse(p, pageOf(0, 0))
				fresh, _ := impl.PoolUse(p, pageOf(4, 4))
				wrong, _ := impl.PoolUse(p, pageOf(4, -4))
				return []impl.Pool{all, first, fresh, wrong}
			}
			impl.PoolOk(p)
			impl.PoolSame(p, p)
			for _, answer := range answers() {
				scribblePages(answer.List)
			}
			if !slices.Equal(wholePool, keptPool) || !slices.Equal(wholeUses, keptUses) {
				t.Fatal(i, uses, "written into")
			}
			for _, answer := range answers() {
				if slices.Contains(answer.List[:cap(answer.List)], pageOf(-9, -9)) {
					t.Fatal(i, uses, "kept")
				}
			}
		}
	}
	span := impl.PageSpan(2, 3, 70)
	scribblePages(span)
	wantSpan(t, 2, 3, 70)
}
