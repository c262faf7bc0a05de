package tests

import (
	"fmt"
	"math"
	"math/rand"
	"slices"
	"strings"
	"testing"
	"unsafe"

	"loop.example/hagioscope/impl"
)

// The tests' own words for chapter 4 follow: the bytes of numbers are written
// down in order and looked up, rows are counted number by number, and a store
// is read by asking for each thing that must hold, not by writing it anew.

// numTexts has the bytes of all numbers, in order: first those of one byte,
// and then those of two, of which the first begins where 128 has gone in once.
var numTexts = func() []string {
	var texts []string
	for one := range 128 {
		texts = append(texts, string([]byte{byte(one)}))
	}
	for high := 129; high < 256; high++ {
		for low := range 128 {
			texts = append(texts, string([]byte{byte(high), byte(low)}))
		}
	}
	return texts
}()

var numsByText = func() map[string]int {
	nums := map[string]int{}
	for n, text := range numTexts {
		nums[text] = n
	}
	return nums
}()

func numTextWanted(n int) string {
	if n < 0 || n >= len(numTexts) {
		return ""
	}
	return numTexts[n]
}

func numAtWanted(s string, at int) (int, int, bool) {
	if at < 0 || at >= len(s) {
		return 0, 0, false
	}
	for size := 1; size <= 2 && at+size <= len(s); size++ {
		if n, ok := numsByText[s[at:at+size]]; ok {
			return n, at + size, true
		}
	}
	return 0, 0, false
}

func rowTextWanted(list []int) string {
	for i, n := range list {
		if n < 0 || n > 16383 || i > 0 && list[i-1] >= n {
			return ""
		}
	}
	if len(list) > 127 {
		return ""
	}
	text := numTexts[len(list)]
	between, met := 0, 0
	for n := 0; met < len(list); n++ {
		if list[met] == n {
			met++
			text += numTexts[between]
			between = 0
		} else {
			between++
		}
	}
	return text
}

func rowAtWanted(s string, at int) ([]int, int, bool) {
	count, at, ok := numAtWanted(s, at)
	if !ok || count > 127 {
		return nil, 0, false
	}
	var list []int
	free := 0
	for range count {
		between, behind, ok := numAtWanted(s, at)
		if !ok || free+between > 16383 {
			return nil, 0, false
		}
		list = append(list, free+between)
		free, at = free+between+1, behind
	}
	return list, at, true
}

func codeOfNode(n impl.Node) int { return 64*n.Label + n.Num }

func segWanted(g impl.Graph, label int) string {
	if !graphWanted(g) {
		return ""
	}
	var nums []int
	rows, count := "", 0
	for _, n := range g.Nodes {
		if n.Label == label {
			nums = append(nums, n.Num)
		}
		var ends []int
		for _, m := range g.Nodes {
			if slices.Contains(g.Edges, edgeOf(label, n, m)) || slices.Contains(g.Edges, edgeOf(label, m, n)) {
				ends = append(ends, codeOfNode(m))
			}
		}
		if len(ends) > 0 {
			rows += numTexts[codeOfNode(n)] + rowTextWanted(ends)
			count++
		}
	}
	if len(nums) == 0 && count == 0 {
		return ""
	}
	return rowTextWanted(nums) + numTexts[count] + rows
}

func storeWanted(g impl.Graph) []impl.Seg {
	var store []impl.Seg
	for label := range labelNames {
		if text := segWanted(g, label); text != "" {
			store = append(store, impl.Seg{Label: label, Bytes: text})
		}
	}
	return store
}

// joinedRow is a row of a node as it is read: its code, and those that it is
// joined to.
type joinedRow struct {
	code int
	ends []int
}

func rowsWanted(s string, at int) ([]joinedRow, bool) {
	count, at, ok := numAtWanted(s, at)
	if !ok {
		return nil, false
	}
	var rows []joinedRow
	for range count {
		code, behind, codeOk := numAtWanted(s, at)
		ends, end, endsOk := rowAtWanted(s, behind)
		if !codeOk || !endsOk || len(ends) == 0 || len(rows) > 0 && rows[len(rows)-1].code >= code {
			return nil, false
		}
		rows, at = append(rows, joinedRow{code, ends}), end
	}
	return rows, at == len(s)
}

func edgesWanted(label int, rows []joinedRow) ([]impl.Edge, bool) {
	told := map[[2]int]bool{}
	for _, row := range rows {
		for _, end := range row.ends {
			told[[2]int{row.code, end}] = true
		}
	}
	var edges []impl.Edge
	for pair := range told {
		if !told[[2]int{pair[1], pair[0]}] {
			return nil, false
		}
		if pair[0] <= pair[1] {
			edges = append(edges, edgeOf(label, nodeOf(pair[0]/64, pair[0]%64), nodeOf(pair[1]/64, pair[1]%64)))
		}
	}
	slices.SortFunc(edges, compareEdges)
	return edges, true
}

func readWanted(store []impl.Seg) (impl.Graph, bool) {
	var g impl.Graph
	for i, seg := range store {
		nums, at, ok := rowAtWanted(seg.Bytes, 0)
		if !ok || !isLabel(seg.Label) || i > 0 && store[i-1].Label >= seg.Label {
			return impl.Graph{}, false
		}
		rows, ok := rowsWanted(seg.Bytes, at)
		edges, both := edgesWanted(seg.Label, rows)
		if !ok || !both || len(nums) == 0 && len(edges) == 0 {
			return impl.Graph{}, false
		}
		for _, num := range nums {
			g.Nodes = append(g.Nodes, nodeOf(seg.Label, num))
		}
		g.Edges = append(g.Edges, edges...)
	}
	if !graphWanted(g) {
		return impl.Graph{}, false
	}
	return g, true
}

func storeText(store []impl.Seg) string {
	text := ""
	for _, seg := range store {
		text += fmt.Sprintf("[%d %q]", seg.Label, seg.Bytes)
	}
	return text
}

func wantStoreRead(t *testing.T, store []impl.Seg) bool {
	t.Helper()
	g, ok := impl.StoreRead(store)
	want, wantOk := readWanted(store)
	if ok != wantOk || !sameGraph(g, want) {
		t.Fatalf("read of %s: %v %v, not %v %v", storeText(store), g, ok, want, wantOk)
	}
	return ok
}

func graphsToPack() []impl.Graph {
	list := append(graphsToTry(), longGraph(), denseGraph())
	r := rand.New(rand.NewSource(9))
	for range 10 {
		list = append(list, crowdedGraph(r))
	}
	return list
}

func TestPackBound(t *testing.T) {
	if impl.PackMost != 16383 {
		t.Error(impl.PackMost)
	}
}

func TestPackNum(t *testing.T) {
	for n := range 16384 {
		if got := impl.PackNum(n); got != numTexts[n] {
			t.Errorf("%d: %q", n, got)
		}
	}
	for n, text := range map[int]string{0: "\x00", 1: "\x01", 127: "\x7f", 128: "\x81\x00", 255: "\x81\x7f", 256: "\x82\x00", 16383: "\xff\x7f"} {
		if got := impl.PackNum(n); got != text {
			t.Errorf("%d: %q", n, got)
		}
	}
}

func TestPackNumOfOthers(t *testing.T) {
	others := []int{-1, -2, -127, -128, -129, -256, -16383, -16384, 16384, 16385, 16511, 32767, 1 << 16, 1 << 32, 1<<32 + 5, math.MaxInt32, math.MinInt32, math.MaxInt, math.MinInt}
	for _, n := range others {
		if got := impl.PackNum(n); got != "" {
			t.Errorf("%d: %q", n, got)
		}
	}
}

func wantNumAt(t *testing.T, s string, at int) {
	t.Helper()
	n, behind, ok := impl.NumAt(s, at)
	wantN, wantBehind, wantOk := numAtWanted(s, at)
	if n != wantN || behind != wantBehind || ok != wantOk {
		t.Errorf("%q at %d: %d %d %v, not %d %d %v", s, at, n, behind, ok, wantN, wantBehind, wantOk)
	}
}

// TestNumAtOfAllBytes: one byte alone, and each two, with and without others
// around them.
func TestNumAtOfAllBytes(t *testing.T) {
	for one := range 256 {
		wantNumAt(t, string([]byte{byte(one)}), 0)
		wantNumAt(t, string([]byte{0, byte(one)}), 1)
		for two := range 256 {
			s := string([]byte{byte(one), byte(two)})
			wantNumAt(t, s, 0)
			wantNumAt(t, "\x81"+s+"\x05", 1)
			wantNumAt(t, "\x05"+s+"\xff", 2)
		}
	}
	for n, text := range numTexts {
		got, behind, ok := impl.NumAt("ab"+text+"\x01", 2)
		if got != n || behind != 2+len(text) || !ok {
			t.Error(n, got, behind, ok)
		}
	}
}

// TestNumAtOfTwoForOne: what would be one byte, or stand in no byte, as two.
func TestNumAtOfTwoForOne(t *testing.T) {
	for low := range 256 {
		if n, behind, ok := impl.NumAt(string([]byte{128, byte(low), 3}), 0); ok || n != 0 || behind != 0 {
			t.Error(low, n, behind)
		}
	}
	for high := 128; high < 256; high++ {
		if n, behind, ok := impl.NumAt(string([]byte{7, byte(high)}), 1); ok || n != 0 || behind != 0 {
			t.Error(high, n, behind)
		}
	}
}

// wildPlaces are none of any text of the tests.
var wildPlaces = []int{-1, -2, -128, math.MinInt, math.MinInt + 1, math.MaxInt, math.MaxInt - 1, 1 << 32, -1 << 32, 1<<32 + 1, 1 << 16, 256}

func TestNumAtAndRowAtOfNoPlace(t *testing.T) {
	for _, s := range []string{"", "\x00", "\x01\x05", "\x81\x00", "\x00\x00\x00\x00"} {
		for _, at := range append([]int{len(s), len(s) + 1, len(s) + 2}, wildPlaces...) {
			if n, behind, ok := impl.NumAt(s, at); ok || n != 0 || behind != 0 {
				t.Errorf("%q at %d: %d %d", s, at, n, behind)
			}
			if list, behind, ok := impl.RowAt(s, at); ok || len(list) != 0 || behind != 0 {
				t.Errorf("%q at %d: %v %d", s, at, list, behind)
			}
		}
	}
}

func wantPackRow(t *testing.T, list []int) {
	t.Helper()
	text, want := impl.PackRow(list), rowTextWanted(list)
	if text != want {
		t.Fatalf("%v: %q, not %q", list, text, want)
	}
	if want == "" {
		return
	}
	for _, around := range [][2]string{{"", ""}, {"\x81", "\x00"}, {"\x05\x80", "\xff"}} {
		got, behind, ok := impl.RowAt(around[0]+text+around[1], len(around[0]))
		if !ok || behind != len(around[0])+len(text) || !slices.Equal(got, list) {
			t.Fatalf("%v: read as %v %d %v", list, got, behind, ok)
		}
	}
	for size := range len(text) {
		if got, behind, ok := impl.RowAt(text[:size], 0); ok || len(got) != 0 || behind != 0 {
			t.Fatalf("%v: read of %d bytes as %v", list, size, got)
		}
	}
}

// stride is so many numbers, from one on and each as far from the next.
func stride(count int, from int, step int) []int {
	var list []int
	for i := range count {
		list = append(list, from+i*step)
	}
	return list
}

func TestPackRow(t *testing.T) {
	for text, list := range map[string][]int{
		"\x00":             nil,
		"\x01\x00":         {0},
		"\x01\x7f":         {127},
		"\x01\x81\x00":     {128},
		"\x01\xff\x7f":     {16383},
		"\x02\x00\x00":     {0, 1},
		"\x02\x00\xff\x7e": {0, 16383},
		"\x02\x05\x7f":     {5, 133},
		"\x02\x05\x81\x00": {5, 134},
	} {
		if got := impl.PackRow(list); got != text {
			t.Errorf("%v: %q", list, got)
		}
		wantPackRow(t, list)
	}
	wantPackRow(t, []int{})
	r := rand.New(rand.NewSource(10))
	for range 60 {
		var list []int
		for range r.Intn(127) {
			list = append(list, r.Intn(1+r.Intn(16384)))
		}
		slices.Sort(list)
		wantPackRow(t, slices.Compact(list))
	}
}

func TestPackRowOfMany(t *testing.T) {
	for _, row := range [][]int{stride(126, 0, 1), stride(127, 0, 1), stride(127, 16383-126, 1), stride(127, 0, 130), stride(127, 9, 129)} {
		wantPackRow(t, row)
		if impl.PackRow(row)[0] != byte(len(row)) {
			t.Error(len(row))
		}
	}
	for _, count := range []int{128, 129, 255, 256, 384, 16384} {
		if got := impl.PackRow(stride(count, 0, 1)); got != "" {
			t.Errorf("%d: %q", count, got)
		}
	}
}

func TestPackRowOfOtherLists(t *testing.T) {
	lists := [][]int{
		{-1}, {-1, 0}, {0, 0}, {1, 0}, {5, 5, 6}, {0, 1, 1}, {3, 2}, {16384}, {0, 16384}, {16383, 16383}, {16383, 0}, {16383, 16384},
		{0, 2, 1}, {2, 3, 0}, {0, -1}, {0, 1, 2, -5},
		{math.MaxInt}, {math.MinInt}, {0, math.MaxInt}, {0, math.MinInt}, {5, math.MinInt}, {math.MinInt, math.MaxInt}, {math.MaxInt, math.MinInt},
		{math.MinInt, 0}, {math.MaxInt, 0}, {1 << 32}, {0, 1<<32 + 1}, {-1 << 32}, {0, 1 << 14}, {0, 1 << 16},
	}
	for _, list := range lists {
		if rowTextWanted(list) != "" {
			t.Fatal(list)
		}
		if got := impl.PackRow(list); got != "" {
			t.Errorf("%v: %q", list, got)
		}
	}
	for place := range 127 {
		list := stride(127, 0, 3)
		list[place] = -1
		wantPackRow(t, list)
		list[place] = 16384
		wantPackRow(t, list)
		if place > 0 {
			list[place] = list[place-1]
			wantPackRow(t, list)
		}
	}
}

func wantRowAt(t *testing.T, s string, at int) bool {
	t.Helper()
	list, behind, ok := impl.RowAt(s, at)
	wantList, wantBehind, wantOk := rowAtWanted(s, at)
	if !slices.Equal(list, wantList) || behind != wantBehind || ok != wantOk {
		t.Fatalf("%q at %d: %v %d %v, not %v %d %v", s, at, list, behind, ok, wantList, wantBehind, wantOk)
	}
	if ok && impl.PackRow(list) != s[at:behind] {
		t.Fatalf("%q at %d: %v", s, at, list)
	}
	return ok
}

func TestRowAtOfRandomBytes(t *testing.T) {
	r := rand.New(rand.NewSource(11))
	pick := []byte{0, 1, 2, 3, 126, 127, 128, 129, 130, 160, 254, 255}
	met := map[bool]int{}
	for range 60000 {
		bytes := make([]byte, r.Intn(9))
		for i := range bytes {
			bytes[i] = pick[r.Intn(len(pick))]
		}
		if len(bytes) > 1 && r.Intn(2) == 0 {
			bytes[0] = byte(r.Intn(4))
		}
		met[wantRowAt(t, string(bytes), r.Intn(3)-r.Intn(2))]++
	}
	if met[true] < 1000 || met[false] < 1000 {
		t.Error(met)
	}
}

// TestRowAtOfOthers: more numbers than there may be, one above the greatest,
// and numbers that are not written as they are.
func TestRowAtOfOthers(t *testing.T) {
	ones := strings.Repeat("\x00", 400)
	for _, s := range []string{
		"\x81\x00" + ones, "\x81\x01" + ones, "\x80\x01" + ones, "\x80\x00", "\x82\x00" + ones, "\xff\x7f" + ones, "\x80", "\xff",
		"\x02\xff\x7f\x00", "\x02\x00\xff\x7f", "\x03\x00\x00\xff\x7e", "\x02\xff\x7f\xff\x7f", "\x7f" + strings.Repeat("\xff\x7f", 127),
		"\x01\x80\x05", "\x01\x80\x00", "\x02\x00\x80\x05", "\x01\x81\x80", "\x01\x81", "\x02\x00", "\x01", "",
	} {
		if wantRowAt(t, s, 0) {
			t.Errorf("%q", s)
		}
	}
	for _, s := range []string{"\x7f" + ones, "\x02\xff\x7e\x00", "\x02\x00\xff\x7e", "\x00", "\x00\xff"} {
		if !wantRowAt(t, s, 0) {
			t.Errorf("%q", s)
		}
	}
}

func TestSegOf(t *testing.T) {
	for i, g := range append(graphsToPack(), brokenGraphs()...) {
		for label := -2; label <= 9; label++ {
			if got, want := impl.SegOf(g, label), segWanted(g, label); got != want {
				t.Errorf("%d, label %d: %q, not %q", i, label, got, want)
			}
		}
		for _, label := range noLabels {
			if got := impl.SegOf(g, label); got != "" {
				t.Errorf("%d, label %d: %q", i, label, got)
			}
		}
	}
}

func TestSegOfWrittenOut(t *testing.T) {
	z, o, a, c := nodeOf(0, 0), nodeOf(0, 40), nodeOf(1, 3), nodeOf(4, 7)
	g := impl.Graph{
		Nodes: []impl.Node{z, o, a, c},
		Edges: []impl.Edge{edgeOf(0, z, o), edgeOf(5, z, a), edgeOf(5, o, c), edgeOf(5, a, c)},
	}
	for label, text := range map[int]string{
		0: "\x02\x00\x27" + "\x02" + "\x00\x01\x28" + "\x28\x01\x00",
		1: "\x01\x03" + "\x00",
		4: "\x01\x07" + "\x00",
		5: "\x00" + "\x04" + "\x00\x01\x43" + "\x28\x01\x82\x07" + "\x43\x02\x00\x82\x06" + "\x82\x07\x02\x28\x1a",
		2: "",
		7: "",
	} {
		if got := impl.SegOf(g, label); got != text {
			t.Errorf("label %d: %q, not %q", label, got, text)
		}
	}
	labels := []int{}
	for _, seg := range impl.StoreOf(g) {
		labels = append(labels, seg.Label)
	}
	if !slices.Equal(labels, []int{0, 1, 4, 5}) {
		t.Error(labels)
	}
}

func TestStoreOfAndRead(t *testing.T) {
	for i, g := range graphsToPack() {
		store := impl.StoreOf(g)
		if !slices.Equal(store, storeWanted(g)) {
			t.Errorf("%d: %s, not %s", i, storeText(store), storeText(storeWanted(g)))
		}
		if back, ok := impl.StoreRead(store); !ok || !sameGraph(back, g) {
			t.Errorf("%d: %v %v, not %v", i, back, ok, g)
		}
		wantStoreRead(t, store)
	}
	for i, g := range brokenGraphs() {
		if store := impl.StoreOf(g); len(store) != 0 {
			t.Error(i, store)
		}
	}
}

func TestStoreOfFull(t *testing.T) {
	r := rand.New(rand.NewSource(12))
	for i, g := range []impl.Graph{fullGraph(), crowdedGraph(r), crowdedGraph(r)} {
		store := impl.StoreOf(g)
		if len(store) != 8 {
			t.Fatal(i, store)
		}
		for label, seg := range store {
			if seg.Label != label || seg.Bytes[0] != 5 || seg.Bytes != segWanted(g, label) {
				t.Errorf("%d: %d %q", i, seg.Label, seg.Bytes)
			}
		}
		wantStoreRead(t, store)
	}
}

func TestStoreOfNothing(t *testing.T) {
	for _, g := range []impl.Graph{{}, {Nodes: []impl.Node{}, Edges: []impl.Edge{}}} {
		if store := impl.StoreOf(g); len(store) != 0 {
			t.Error(store)
		}
	}
	for _, store := range [][]impl.Seg{nil, {}} {
		if g, ok := impl.StoreRead(store); !ok || len(g.Nodes) != 0 || len(g.Edges) != 0 {
			t.Error(g, ok)
		}
	}
}

// TestStoreOfOneKind: a label with nodes alone, and one with edges alone whose
// nodes are of other labels.
func TestStoreOfOneKind(t *testing.T) {
	a, b := nodeOf(1, 2), nodeOf(2, 40)
	nodes := impl.Graph{Nodes: []impl.Node{a, b}}
	both := impl.Graph{Nodes: []impl.Node{a, b}, Edges: []impl.Edge{edgeOf(3, a, b)}}
	if store := impl.StoreOf(nodes); !slices.Equal(store, []impl.Seg{{Label: 1, Bytes: "\x01\x02\x00"}, {Label: 2, Bytes: "\x01\x28\x00"}}) {
		t.Error(storeText(store))
	}
	store := impl.StoreOf(both)
	if !slices.Equal(store, []impl.Seg{{Label: 1, Bytes: "\x01\x02\x00"}, {Label: 2, Bytes: "\x01\x28\x00"}, {Label: 3, Bytes: "\x00\x02\x42\x01\x81\x28\x81\x28\x01\x42"}}) {
		t.Error(storeText(store))
	}
	for _, g := range []impl.Graph{nodes, both} {
		if back, ok := impl.StoreRead(impl.StoreOf(g)); !ok || !sameGraph(back, g) {
			t.Error(back, ok)
		}
	}
	for _, part := range [][]impl.Seg{store[2:], store[1:], {store[0], store[2]}} {
		if wantStoreRead(t, part) {
			t.Error(storeText(part))
		}
	}
}

// onlyOf has of a graph what is of one label, and of the other nodes those that
// its edges need.
func onlyOf(g impl.Graph, label int) impl.Graph {
	h := copyGraph(g)
	h.Edges = slices.DeleteFunc(h.Edges, func(e impl.Edge) bool { return e.Label != label })
	h.Nodes = slices.DeleteFunc(h.Nodes, func(n impl.Node) bool {
		return n.Label != label && !slices.ContainsFunc(h.Edges, func(e impl.Edge) bool { return e.A == n || e.B == n })
	})
	return h
}

// TestSegIsOfOneLabel is promise 4: the bytes of a label are the same with
// nothing else there, and are turned by nothing that is done to another one.
func TestSegIsOfOneLabel(t *testing.T) {
	r := rand.New(rand.NewSource(13))
	for i, g := range graphsToPack() {
		for label := range labelNames {
			if impl.SegOf(onlyOf(g, label), label) != impl.SegOf(g, label) {
				t.Fatal(i, label)
			}
		}
		for range 60 {
			op := randomOp(r)
			if r.Intn(2) == 0 {
				op = edgeAmong(r, g)
			}
			h, code := doWanted(g, op)
			for label := range labelNames {
				before, after := impl.SegOf(g, label), impl.SegOf(h, label)
				of := opLabelWanted(op)
				// A node that goes takes edges of labels above its own with it.
				if op.Kind == impl.OpGone && seenWith(of, label) {
					continue
				}
				if (before != after) != (code == 0 && label == of) {
					t.Fatal(i, label, op, code)
				}
			}
		}
	}
}

// TestStoreViewIsOfWhatIsSeen: the bytes of what is seen are what is seen of
// the bytes.
func TestStoreViewIsOfWhatIsSeen(t *testing.T) {
	for i, g := range graphsToPack() {
		store := impl.StoreOf(g)
		for clear := range labelNames {
			seen := impl.StoreView(store, clear)
			if !slices.Equal(seen, impl.StoreOf(viewWanted(g, clear))) {
				t.Errorf("%d with %d: %s", i, clear, storeText(seen))
			}
			if back, ok := impl.StoreRead(seen); !ok || !sameGraph(back, viewWanted(g, clear)) {
				t.Errorf("%d with %d: %v %v", i, clear, back, ok)
			}
		}
	}
}

func smallStore() []impl.Seg { return storeWanted(smallGraph()) }

// wrongStores are each wrong in one thing.
func wrongStores() [][]impl.Seg {
	seg := func(label int, bytes string) impl.Seg { return impl.Seg{Label: label, Bytes: bytes} }
	two := "\x02\x00\x00\x02\x00\x01\x01\x01\x01\x00"
	list := [][]impl.Seg{
		{seg(1, "\x01\x00\x00"), seg(0, "\x01\x00\x00")},
		{seg(7, "\x01\x00\x00"), seg(1, "\x01\x00\x00")},
		{seg(0, "\x01\x00\x00"), seg(0, "\x01\x00\x00")},
		{seg(0, "\x01\x00\x00"), seg(0, "\x01\x01\x00")},
		{seg(0, "\x01\x00\x00"), seg(2, "\x01\x00\x00"), seg(0, "\x01\x01\x00")},
		{seg(0, "")}, {seg(8, "")}, {seg(0, ""), seg(1, "\x01\x00\x00")}, {seg(0, "\x01\x00\x00"), seg(1, "")},
		{seg(0, "\x00\x00")}, {seg(0, "\x01\x00\x00"), seg(1, "\x00\x00")},
		{seg(0, "\x00")}, {seg(0, "\x01")}, {seg(0, "\x01\x00")}, {seg(0, "\x01\x00\x00\x00")}, {seg(0, "\x01\x00\x00\x00\x01\x01")},
		{seg(0, two+"\x00")}, {seg(0, two[:len(two)-1])}, {seg(0, two+two)},
		{seg(0, "\x80\x01\x00\x00")}, {seg(0, "\x01\x80\x00\x00")}, {seg(0, "\x01\x00\x80\x00")},
		{seg(0, "\x02\x00\x00\x80\x02\x00\x01\x01\x01\x01\x00")},
		{seg(0, "\x02\x00\x00\x02\x80\x00\x01\x01\x01\x01\x00")},
		{seg(0, "\x02\x00\x00\x02\x00\x01\x80\x01\x01\x01\x00")},
		{seg(0, "\x01\x29\x00")}, {seg(0, "\x02\x28\x00\x00")}, {seg(0, "\x01\x40\x00")}, {seg(0, "\x01\x81\x00\x00")},
		{seg(0, "\x06\x00\x00\x00\x00\x00\x00\x00")},
		{seg(0, "\x02\x00\x00\x01\x00\x01\x01")},
		{seg(0, "\x02\x00\x00\x01\x01\x01\x00")},
		{seg(0, "\x02\x00\x00\x02\x00\x01\x01\x01\x00")},
		{seg(0, "\x02\x00\x00\x02\x00\x00\x01\x01\x00")},
		{seg(0, "\x02\x00\x00\x02\x00\x01\x00\x01\x01\x01")},
		{seg(0, "\x01\x00\x01\x00\x01\x00")},
		{seg(0, "\x02\x00\x00\x02\x00\x01\x01\x00\x01\x01")},
		{seg(0, "\x02\x00\x00\x02\x00\x02\x00\x00\x01\x01\x00")},
		{seg(0, "\x02\x00\x00\x02\x01\x01\x00\x00\x01\x01")},
		{seg(0, "\x02\x00\x00\x03\x00\x01\x01\x01\x01\x00\x02\x00")},
		{seg(0, "\x02\x00\x00\x03\x00\x01\x01\x01\x01\x00\x01\x01\x00")},
		{seg(0, "\x02\x00\x00\x01\x00\x01\x01\x01\x01\x00")},
		{seg(0, "\x02\x00\x00\x03\x00\x01\x01\x01\x01\x00")},
		{seg(0, "\x03\x00\x00\x00\x03\x00\x02\x01\x00\x01\x01\x00\x02\x01\x00\x01")},
		{seg(0, "\x01\x00\x02\x00\x01\x01\x01\x01\x00")},
		{seg(0, "\x01\x01\x02\x00\x01\x01\x01\x01\x00")},
		{seg(0, "\x00\x02\x00\x01\x01\x01\x01\x00")},
		{seg(0, "\x02\x00\x00\x02\x00\x01\x29\x29\x01\x00")},
		{seg(0, "\x01\x00\x02\x00\x01\x40\x40\x01\x00"), seg(1, "\x01\x00\x00")},
		{seg(0, "\x01\x00\x00"), seg(1, "\x01\x00\x00"), seg(2, "\x00\x02\x00\x01\x40\x40\x01\x00")},
		{seg(0, "\x01\x00\x02\x00\x01\x84\x00\x84\x00\x01\x00")},
		{seg(0, "\x01\x00\xff\x7f")}, {seg(0, "\x7f"+strings.Repeat("\x00", 128))}, {seg(0, strings.Repeat("\xff", 200))}, {seg(0, strings.Repeat("\x00", 200))},
	}
	for _, wild := range noLabels {
		list = append(list, []impl.Seg{seg(wild, "\x01\x00\x00")}, []impl.Seg{seg(wild, "\x00\x00")}, []impl.Seg{seg(wild, two)},
			append(smallStore(), seg(wild, "\x01\x00\x00")), append([]impl.Seg{seg(wild, "\x01\x00\x00")}, smallStore()...))
	}
	return append(list, fullStores()...)
}

// fullStores are of graphs with one node, or one edge, more than there may be.
func fullStores() [][]impl.Seg {
	var list [][]impl.Seg
	for label := range labelNames {
		store := storeWanted(fullGraph())
		nums := rowTextWanted([]int{0, 7, 9, 13, 39, 40})
		store[label].Bytes = nums + store[label].Bytes[6:]
		edgy := storeWanted(fullGraph())
		at := func(place int) int { return codeOfNode(nodeOf(label, []int{0, 7, 13, 39, 40}[place])) }
		text := edgy[label].Bytes[:6] + "\x05"
		for one, others := range [][]int{{1, 2, 3, 4}, {0, 2, 4}, {0, 1, 3}, {0, 2, 4}, {0, 1, 3}} {
			var ends []int
			for _, other := range others {
				ends = append(ends, at(other))
			}
			text += numTexts[at(one)] + rowTextWanted(ends)
		}
		edgy[label].Bytes = text
		list = append(list, store, edgy)
	}
	return list
}

func TestStoreReadOfWrongStores(t *testing.T) {
	for i, store := range wrongStores() {
		if g, ok := impl.StoreRead(store); ok || len(g.Nodes) != 0 || len(g.Edges) != 0 {
			t.Errorf("%d, %s: %v %v", i, storeText(store), g, ok)
		}
		if wantStoreRead(t, store) {
			t.Error(i, storeText(store))
		}
	}
}

// TestStoreReadOfAllShortBytes: one label's bytes, all that are short, of bytes
// that often stand there.
func TestStoreReadOfAllShortBytes(t *testing.T) {
	read := 0
	texts := []string{""}
	for range 7 {
		var longer []string
		for _, text := range texts {
			for _, b := range []string{"\x00", "\x01", "\x02", "\x28", "\x80"} {
				longer = append(longer, text+b)
				if wantStoreRead(t, []impl.Seg{{Label: len(text) % 3, Bytes: text + b}}) {
					read++
				}
			}
		}
		texts = longer
	}
	for _, text := range texts {
		// An edge is only behind two nodes: the shortest bytes of one are ten.
		if wantStoreRead(t, []impl.Seg{{Label: 0, Bytes: "\x02\x00\x00" + text}}) {
			read++
		}
	}
	if read < 5 {
		t.Error(read)
	}
}

func turnedBytes(r *rand.Rand, s string) string {
	bytes := []byte(s)
	if len(bytes) == 0 {
		return "\x00"
	}
	i, j := r.Intn(len(bytes)), r.Intn(len(bytes))
	switch r.Intn(6) {
	case 0:
		bytes[i] = byte(r.Intn(256))
	case 1:
		bytes[i] += byte(r.Intn(3) - 1)
	case 2:
		bytes = slices.Delete(bytes, i, i+1)
	case 3:
		bytes = slices.Insert(bytes, i, bytes[j])
	case 4:
		bytes[i], bytes[j] = bytes[j], bytes[i]
	case 5:
		bytes = bytes[:i]
	}
	return string(bytes)
}

func turnedStore(r *rand.Rand, store []impl.Seg) []impl.Seg {
	turned := slices.Clone(store)
	if len(turned) == 0 {
		return turned
	}
	i, j := r.Intn(len(turned)), r.Intn(len(turned))
	switch r.Intn(8) {
	case 0:
		return slices.Delete(turned, i, i+1)
	case 1:
		turned[i], turned[j] = turned[j], turned[i]
	case 2:
		turned[i].Bytes = turned[j].Bytes
	case 3:
		turned[i].Label += r.Intn(3) - 1
	default:
		turned[i].Bytes = turnedBytes(r, turned[i].Bytes)
	}
	return turned
}

func TestStoreReadOfTurned(t *testing.T) {
	r := rand.New(rand.NewSource(14))
	met := map[bool]int{}
	graphs := append(graphsToPack(), impl.Graph{Nodes: plainNodes(3), Edges: []impl.Edge{edgeOf(0, nodeOf(0, 0), nodeOf(0, 1))}})
	for _, g := range graphs {
		store := storeWanted(g)
		for range 400 {
			met[wantStoreRead(t, turnedStore(r, store))]++
		}
	}
	if met[true] < 500 || met[false] < 500 {
		t.Error(met)
	}
}

// TestStoreReadOfEndedEarly: of each label's bytes all that end too early, and
// with one more byte than there should be.
func TestStoreReadOfEndedEarly(t *testing.T) {
	for i, g := range graphsToPack()[:20] {
		whole := storeWanted(g)
		for place, seg := range whole {
			for size := range len(seg.Bytes) {
				store := slices.Clone(whole)
				store[place].Bytes = seg.Bytes[:size]
				if wantStoreRead(t, store) {
					t.Fatal(i, place, size)
				}
			}
			for _, more := range []string{"\x00", "\x01", "\x80", "\xff", seg.Bytes} {
				store := slices.Clone(whole)
				store[place].Bytes += more
				if wantStoreRead(t, store) {
					t.Fatal(i, place, more)
				}
			}
		}
	}
}

// wildStore is in no order, and has what is no label.
func wildStore() []impl.Seg {
	store := []impl.Seg{{Label: 7, Bytes: "seven"}, {Label: 0}, {Label: 2, Bytes: "\xff"}, {Label: 0, Bytes: "again"}, {Label: 3, Bytes: "three"}, {Label: 2, Bytes: "two"}}
	for _, wild := range noLabels {
		store = append(store, impl.Seg{Label: wild, Bytes: "wild"})
	}
	return append(store, impl.Seg{Label: 4, Bytes: "four"}, impl.Seg{Label: 1, Bytes: "one"})
}

func TestStoreView(t *testing.T) {
	stores := append(wrongStores(), nil, []impl.Seg{}, wildStore(), smallStore())
	for i, store := range stores {
		for _, clear := range append(slices.Clone(everyLabel), noLabels...) {
			var want []impl.Seg
			for _, seg := range store {
				if seenWith(seg.Label, clear) {
					want = append(want, seg)
				}
			}
			if got := impl.StoreView(store, clear); !slices.Equal(got, want) {
				t.Errorf("%d with %d: %s, not %s", i, clear, storeText(got), storeText(want))
			}
		}
	}
	if got := impl.StoreView(wildStore(), 2); !slices.Equal(got, []impl.Seg{{Label: 0}, {Label: 2, Bytes: "\xff"}, {Label: 0, Bytes: "again"}, {Label: 2, Bytes: "two"}}) {
		t.Error(storeText(got))
	}
}

func TestStoreSame(t *testing.T) {
	if !impl.StoreSame(nil, []impl.Seg{}) || !impl.StoreSame([]impl.Seg{}, nil) || !impl.StoreSame(nil, nil) {
		t.Error("nothing")
	}
	stores := append(wrongStores(), nil, wildStore(), smallStore(), []impl.Seg{{}}, []impl.Seg{{}, {}})
	for i, a := range stores {
		if !impl.StoreSame(a, slices.Clone(a)) {
			t.Error(i)
		}
		for j, b := range stores {
			if impl.StoreSame(a, b) != (storeText(a) == storeText(b)) {
				t.Error(i, j)
			}
		}
	}
	for place := range smallStore() {
		for i, turn := range []func(seg *impl.Seg){
			func(seg *impl.Seg) { seg.Label++ },
			func(seg *impl.Seg) { seg.Label += 1 << 32 },
			func(seg *impl.Seg) { seg.Bytes += "\x00" },
			func(seg *impl.Seg) { seg.Bytes = seg.Bytes[1:] },
			func(seg *impl.Seg) { seg.Bytes = strings.Repeat("\x01", len(seg.Bytes)) },
		} {
			store := smallStore()
			turn(&store[place])
			if impl.StoreSame(store, smallStore()) || impl.StoreSame(smallStore(), store) {
				t.Error(place, i)
			}
		}
		if impl.StoreSame(smallStore()[:place], smallStore()) || impl.StoreSame(smallStore(), smallStore()[:place]) {
			t.Error(place)
		}
	}
}

func scribbleStore(store []impl.Seg) {
	for i := range store[:cap(store)] {
		store[:cap(store)][i] = impl.Seg{Label: -9, Bytes: "scribble"}
	}
}

func roomyStore(store []impl.Seg) ([]impl.Seg, []impl.Seg) {
	whole := append(slices.Clone(store), impl.Seg{Label: -5, Bytes: "behind"}, impl.Seg{Label: 0, Bytes: "behind"})
	return whole[:len(store)], whole
}

func TestPackOfStoresIsNewMemory(t *testing.T) {
	stores := append(wrongStores(), wildStore(), smallStore(), storeWanted(fullGraph()))
	for i, plain := range stores {
		store, whole := roomyStore(plain)
		kept := slices.Clone(whole)
		hold := func(name string) {
			if !slices.Equal(whole, kept) {
				t.Fatal(i, name)
			}
		}
		g, ok := impl.StoreRead(store)
		scribbleGraph(g)
		hold("read")
		if h, again := impl.StoreRead(store); again != ok || slices.Contains(h.Nodes, nodeOf(-9, -9)) {
			t.Fatal(i)
		}
		for clear := range labelNames {
			seen := impl.StoreView(store, clear)
			for _, seg := range seen {
				if slices.ContainsFunc(store, func(of impl.Seg) bool {
					return seg.Bytes != "" && unsafe.StringData(of.Bytes) == unsafe.StringData(seg.Bytes)
				}) {
					t.Fatal(i, clear, "bytes of the store")
				}
			}
			scribbleStore(seen)
			hold("view")
		}
		impl.StoreSame(store, store)
		hold("same")
	}
}

func TestPackOfGraphsIsNewMemory(t *testing.T) {
	for i, plain := range append(graphsToTry(), brokenGraphs()...) {
		g, whole := roomy(plain)
		kept := copyGraph(whole)
		for label := -1; label <= 8; label++ {
			impl.SegOf(g, label)
		}
		store := impl.StoreOf(g)
		scribbleStore(store)
		if !sameGraph(whole, kept) || !slices.Equal(impl.StoreOf(g), storeWanted(plain)) {
			t.Fatal(i)
		}
	}
}

func TestPackOfRowsIsNewMemory(t *testing.T) {
	for _, plain := range [][]int{nil, {0}, {3, 9, 200}, {5, 5}, {9, 3}, {-1}, stride(127, 0, 1), stride(128, 0, 1)} {
		whole := append(slices.Clone(plain), -5, 1)
		kept := slices.Clone(whole)
		text := impl.PackRow(whole[:len(plain)])
		if !slices.Equal(whole, kept) || text != rowTextWanted(plain) {
			t.Error(plain)
		}
		list, _, ok := impl.RowAt(text, 0)
		scribbleNumbers(list)
		if again, _, same := impl.RowAt(text, 0); ok != same || ok && !slices.Equal(again, plain) || slices.Contains(again[:cap(again)], -9) {
			t.Error(plain, again)
		}
	}
}
