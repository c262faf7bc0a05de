package tests

import (
	"fmt"
	"math/rand"
	"regexp"
	"slices"
	"strconv"
	"strings"
	"testing"

	"loop.example/hagioscope/impl"
)

// The tests' own words for chapter 8 follow. They tell lines by patterns of the
// whole line, and lean on the tests' own words for the chapters ahead alone.

const (
	aLabel  = `(-|a|b|c|ab|ac|bc|abc)`
	aNumber = `(0|-?[1-9][0-9]{0,16})`
	aNode   = `((?:-|a|b|c|ab|ac|bc|abc)\.(?:[0-9]|[123][0-9]|40))`
)

func patternOf(words ...string) *regexp.Regexp {
	return regexp.MustCompile(`\A *` + strings.Join(words, ` +`) + ` *\z`)
}

var (
	isNodeText = patternOf(aNode)
	isPerson   = patternOf("person", aLabel, aNumber, aNumber)
	isOfNode   = patternOf(aNumber, "(node|gone|near|dist)", aNode)
	isOfEdge   = patternOf(aNumber, "(edge|cut)", aLabel, aNode, aNode)
	isOfAll    = patternOf(aNumber, "(core|threes|fill)")
	isSeen     = patternOf("seen", aLabel)
)

var endNames = []string{"fine", "form", "there", "none", "full", "denied", "spent"}

func labelNamed(text string) int {
	return slices.Index(labelNames, strings.TrimPrefix(text, "-"))
}

func mustNumber(text string) int {
	n, err := strconv.Atoi(text)
	if err != nil {
		panic(err)
	}
	return n
}

func nodeNamed(text string) impl.Node {
	dot := strings.IndexByte(text, '.')
	return nodeOf(labelNamed(text[:dot]), mustNumber(text[dot+1:]))
}

func nodeName(n impl.Node) string { return fmt.Sprintf("%s.%d", labelTextWanted(n.Label), n.Num) }

// evNamed is what happens by a line, if it is one by which something happens.
func evNamed(line string) (impl.Ev, bool) {
	if m := isOfNode.FindStringSubmatch(line); m != nil {
		who, n := mustNumber(m[1]), nodeNamed(m[3])
		return map[string]impl.Ev{"node": evDo(who, putNode(n)), "gone": evDo(who, goneNode(n)), "near": evAsk(who, nearOf(n)), "dist": evAsk(who, distOf(n))}[m[2]], true
	}
	if m := isOfEdge.FindStringSubmatch(line); m != nil {
		a, b := nodeNamed(m[4]), nodeNamed(m[5])
		if compareNodes(a, b) > 0 {
			a, b = b, a
		}
		who, e := mustNumber(m[1]), edgeOf(labelNamed(m[3]), a, b)
		return map[string]impl.Ev{"edge": evDo(who, putEdge(e)), "cut": evDo(who, cutEdge(e))}[m[2]], true
	}
	if m := isOfAll.FindStringSubmatch(line); m != nil {
		who := mustNumber(m[1])
		return map[string]impl.Ev{"core": evAsk(who, coreOf), "threes": evAsk(who, threesOf), "fill": evFill(who)}[m[2]], true
	}
	return impl.Ev{}, false
}

func seenWanted(g impl.Graph, clear int) string {
	text, seen := "", viewWanted(g, clear)
	for _, n := range seen.Nodes {
		text += nodeName(n) + "\n"
	}
	for _, e := range seen.Edges {
		text += fmt.Sprintln(labelTextWanted(e.Label), nodeName(e.A), nodeName(e.B))
	}
	return text + "end\n"
}

// lineWanted is the world behind a line with words, and what it answers.
func lineWanted(w impl.World, line string) (impl.World, string) {
	if m := isPerson.FindStringSubmatch(line); m != nil {
		people := append(slices.Clone(w.People), personOf(labelNamed(m[1]), mustNumber(m[2]), mustNumber(m[3])))
		if peopleWanted(people) {
			return newWanted(people), "fine\n"
		}
		return w, "what\n"
	}
	if m := isSeen.FindStringSubmatch(line); m != nil {
		return w, seenWanted(w.Graph, labelNamed(m[1]))
	}
	ev, ok := evNamed(line)
	if !ok {
		return w, "what\n"
	}
	next, one := stepWanted(w, ev)
	if ev.Kind != 2 || one.Code != 0 {
		return next, endNames[one.Code] + "\n"
	}
	text := fmt.Sprint("read ", one.Reads)
	for _, n := range one.Answer {
		text += fmt.Sprint(" ", n)
	}
	return next, text + "\n"
}

// runWanted has, for each line of a script that is done, what it answers.
func runWanted(text string) []string {
	if len(text) > 20000 {
		return []string{"long\n"}
	}
	var w impl.World
	var all []string
	size := 0
	for i, line := range strings.Split(text, "\n") {
		answer := ""
		if strings.Trim(line, " ") != "" {
			if i >= 200 || size > 20000 {
				return append(all, "full\n")
			}
			w, answer = lineWanted(w, line)
		}
		all = append(all, answer)
		size += len(answer)
	}
	return all
}

func wantRun(t *testing.T, text string) string {
	t.Helper()
	got, want := impl.DeskRun(text), strings.Join(runWanted(text), "")
	if got != want {
		t.Fatalf("%q answers %q, not %q", text, got, want)
	}
	return got
}

// wantLines holds a script that is written out, each of its lines ahead of what
// it answers, against that.
func wantLines(t *testing.T, pairs ...string) {
	t.Helper()
	script, want := "", ""
	for i := 0; i < len(pairs); i += 2 {
		script += pairs[i] + "\n"
		want += pairs[i+1] + "\n"
	}
	if got := wantRun(t, script); got != want {
		t.Errorf("%q answers %q, not %q", script, got, want)
	}
}

// wantAnswer holds a script against an answer that is written out.
func wantAnswer(t *testing.T, script string, want string) {
	t.Helper()
	if got := wantRun(t, script); got != want {
		t.Errorf("%.200q: %d bytes, %.200q, not %d bytes, %.200q", script, len(got), got, len(want), want)
	}
}

const exampleScript = `person - 4 40
person a 6 40
person abc 8 100
0 node -.1
0 node -.2
1 node a.1
2 node bc.5
1 edge a -.1 a.1
1 edge a a.1 -.2
2 edge abc a.1 bc.5
0 dist -.1
1 dist -.1
0 edge - -.2 -.1
0 dist -.1
1 threes
2 core
0 node a.7
0 threes
seen a
`

const exampleAnswer = `fine
fine
fine
fine
fine
fine
fine
fine
fine
fine
read 1 0 -1
read 3 0 2 1
fine
read 1 0 1
read 1 1
read 7 2 2 2 1
denied
read 0 0
-.1
-.2
a.1
- -.1 -.2
a -.1 a.1
a -.2 a.1
end
`

func TestDeskBounds(t *testing.T) {
	if impl.DeskMaxText != 20000 || impl.DeskMaxLines != 200 || impl.DeskMaxOut != 20000 {
		t.Error(impl.DeskMaxText, impl.DeskMaxLines, impl.DeskMaxOut)
	}
}

func TestNodeTextAndBack(t *testing.T) {
	for label := range labelNames {
		for num := range 41 {
			n := nodeOf(label, num)
			text := impl.NodeText(n)
			if text != nodeName(n) {
				t.Error(n, text)
			}
			if back, ok := impl.NodeRead(text); !ok || back != n {
				t.Error(n, back, ok)
			}
		}
	}
	for n, text := range map[impl.Node]string{nodeOf(0, 0): "-.0", nodeOf(0, 40): "-.40", nodeOf(7, 9): "abc.9", nodeOf(5, 10): "ac.10"} {
		if impl.NodeText(n) != text {
			t.Error(n, impl.NodeText(n))
		}
	}
}

func TestNodeTextOfWrongNodes(t *testing.T) {
	for _, wild := range wildNumbers {
		for _, n := range []impl.Node{nodeOf(wild, 1), nodeOf(1, wild), nodeOf(wild, wild)} {
			if text := impl.NodeText(n); !nodeWanted(n) && text != "" {
				t.Error(n, text)
			}
		}
	}
	if impl.NodeText(nodeOf(0, 41)) != "" || impl.NodeText(nodeOf(8, 0)) != "" || impl.NodeText(nodeOf(-1, 0)) != "" || impl.NodeText(nodeOf(0, -1)) != "" {
		t.Error("a text")
	}
}

func wantNodeRead(t *testing.T, text string) {
	t.Helper()
	want, wantOk := impl.Node{}, isNodeText.MatchString(text) && !strings.Contains(text, " ")
	if wantOk {
		want = nodeNamed(text)
	}
	if got, ok := impl.NodeRead(text); ok != wantOk || got != want {
		t.Errorf("%q: %v %v", text, got, ok)
	}
}

func TestNodeReadOfAllShortTexts(t *testing.T) {
	texts := []string{""}
	for range 5 {
		var longer []string
		for _, text := range texts {
			wantNodeRead(t, text)
			for _, s := range []string{"-", "a", "b", "c", ".", "0", "1", "4", "9", "+", " "} {
				longer = append(longer, text+s)
			}
		}
		texts = longer
	}
	for _, text := range texts {
		wantNodeRead(t, text)
	}
}

// wrongNodes are texts that are no node's.
func wrongNodes() []string {
	return []string{
		".", "a", "a1", "a.", ".1", "1.a", "a.01", "a.00", "-.-0", "a.-1", "a.+1", "a.41", "a.140", "a.4a", "a.0x1", "a.1_0", "a.1e1", "a.1.", "a..1", ".a.1", "a.1.1", "a.b.1",
		"ba.1", "cb.1", "ca.1", "acb.1", "aa.1", "aab.1", "abcc.1", "d.1", "A.1", "-a.1", "a-.1", "--.1", "7.1", "0.1", "a,1", "a:1", "a.१", "а.1", "a.1\t", "\ta.1", "a.\x001", "a\x00.1", "a.1\x00", "\xff.1", "a.\xff", "a．1",
		"a.99999999999999999", "a.18446744073709551617", "a.4294967297", "a.-18446744073709551615", "a.1" + strings.Repeat("0", 1000), strings.Repeat("a", 1000) + ".1",
	}
}

func TestNodeReadOfWrongTexts(t *testing.T) {
	for _, text := range append(wrongNodes(), "", " ", " a.1", "a.1 ", "a .1", "a. 1", "a.1\n", "\na.1", "a.1\r") {
		if n, ok := impl.NodeRead(text); ok || n != (impl.Node{}) {
			t.Errorf("%q: %v %v", text, n, ok)
		}
		wantNodeRead(t, text)
	}
}

func TestDeskOfDocument(t *testing.T) {
	wantAnswer(t, exampleScript, exampleAnswer)
	wantAnswer(t, strings.TrimSuffix(exampleScript, "\n"), exampleAnswer)
}

// TestDeskLines has every line of the table, and every word of how it ended.
func TestDeskLines(t *testing.T) {
	wantLines(t,
		"person a 12 7", "fine",
		"person ab 2 100", "fine",
		"0 node -.0", "fine", "0 node -.0", "there", "0 node b.1", "denied", "0 node a.40", "fine", "1 node ab.2", "fine",
		"0 node a.0", "fine", "0 node a.1", "fine", "0 node a.2", "fine", "0 node a.3", "fine", "0 node a.4", "full",
		"0 gone a.4", "none", "0 gone a.3", "fine", "0 gone ab.2", "denied", "0 gone a.3", "none", "0 gone a.2", "fine",
		"0 edge a -.0 a.40", "fine", "0 edge a -.0 a.40", "there", "0 edge ab -.0 a.40", "denied", "1 edge ab -.0 ab.2", "fine",
		"0 edge a -.0 a.9", "none", "0 edge - -.0 a.40", "form", "0 edge b -.0 a.40", "form", "1 edge abc -.0 a.40", "denied",
		"0 cut a -.0 a.1", "none", "0 cut - -.0 a.40", "form", "0 cut ab -.0 ab.2", "denied", "0 edge a a.0 a.1", "fine", "0 edge a a.0 a.40", "fine",
		"0 near -.0", "read 2 104", "0 dist -.0", "read 2 0 2 3 1", "0 core", "read 0 1 1 1 1", "0 threes", "read 0 0",
		"1 near ab.2", "read 4 0", "1 dist b.7", "read 3",
		"0 edge a a.40 -.0", "there", "0 cut a a.40 -.0", "fine", "0 near -.0", "read 0", "0 dist -.0", "read 0 0 -1 -1 -1",
		"seen a", "-.0\na.0\na.1\na.40\na a.0 a.1\na a.0 a.40\nend", "seen -", "-.0\nend", "seen b", "-.0\nend",
		"seen ab", "-.0\na.0\na.1\na.40\nab.2\na a.0 a.1\na a.0 a.40\nab -.0 ab.2\nend",
		"0 fill", "fine", "1 fill", "fine", "2 fill", "form", "1 gone ab.2", "fine", "seen abc", "-.0\na.0\na.1\na.40\na a.0 a.1\na a.0 a.40\nend",
	)
}

// TestDeskFullEdges: seven edges of a label may be, one more is refused.
func TestDeskFullEdges(t *testing.T) {
	script := "person - 12 100\n0 node -.0\n0 node -.1\n0 node -.2\n0 node -.3\n0 node -.4\n"
	for _, pair := range []string{"-.0 -.1", "-.2 -.0", "-.0 -.3", "-.4 -.0", "-.1 -.2", "-.3 -.2", "-.3 -.4"} {
		script += "0 edge - " + pair + "\n"
	}
	wantAnswer(t, script+"0 edge - -.1 -.3\n0 edge - -.1 -.0\n0 core\n0 threes\n", strings.Repeat("fine\n", 13)+"full\nthere\nread 4 2 2 2 2 2\nread 0 3\n")
}

// TestDeskSpends: one who would read more than is left is told neither an answer
// nor how much that would be.
func TestDeskSpends(t *testing.T) {
	wantLines(t,
		"person - 0 3", "fine", "person - 12 0", "fine",
		"0 core", "read 0", "0 node -.1", "fine", "0 node -.2", "fine", "0 edge - -.1 -.2", "fine",
		"1 core", "spent", "1 near -.1", "spent", "1 fill", "fine", "1 dist -.2", "spent", "1 dist -.3", "spent",
		"0 core", "spent", "0 near -.1", "spent", "0 fill", "fine", "0 near -.1", "read 2 2", "0 near -.1", "spent",
		"0 fill", "fine", "0 dist -.3", "read 1", "0 near -.2", "spent", "0 fill", "fine", "0 dist -.3", "read 1", "0 near -.1", "read 2 2", "0 threes", "spent",
	)
}

// TestDeskEdgesFromEitherEnd tells and takes away an edge both ways round.
func TestDeskEdgesFromEitherEnd(t *testing.T) {
	nodes := []impl.Node{nodeOf(0, 1), nodeOf(0, 10), nodeOf(0, 9), nodeOf(1, 0), nodeOf(3, 0), nodeOf(4, 40), nodeOf(7, 2)}
	build := "person abc 12 100\n"
	for _, n := range nodes {
		build += "0 node " + nodeName(n) + "\n"
	}
	for _, a := range nodes {
		for _, b := range nodes {
			there, back := nodeName(a)+" "+nodeName(b), nodeName(b)+" "+nodeName(a)
			want := "fine\nthere\nthere\nfine\nnone\nnone\n"
			if a == b {
				want = "form\nform\nform\nform\nform\nform\n"
			}
			for _, first := range []string{there, back} {
				script := build + "0 edge abc " + first + "\n0 edge abc " + there + "\n0 edge abc " + back + "\n0 cut abc " + there + "\n0 cut abc " + back + "\n0 cut abc " + first
				wantAnswer(t, script, strings.Repeat("fine\n", len(nodes)+1)+want)
			}
		}
	}
	wantLines(t, "person - 12 100", "fine", "0 edge - -.1 -.1", "form", "0 node -.1", "fine", "0 edge - -.1 -.1", "form", "0 cut - -.1 -.1", "form", "1 cut - -.1 -.1", "form", "0 edge abc -.1 -.1", "form", "0 core", "read 1 0")
}

// TestDeskBeginsAnew: with someone who comes behind all has begun, the graph, what
// is at hand and what was read are nothing again; one who can not come turns nothing.
func TestDeskBeginsAnew(t *testing.T) {
	wantLines(t,
		"person - 2 3", "fine", "0 node -.1", "fine", "0 threes", "read 1 0", "0 threes", "read 0 0", "0 node -.7", "fine", "0 edge - -.1 -.7", "fine", "0 dist -.1", "read 1 0 1", "1 node -.2", "form",
		"person a 13 5", "what", "person d 1 5", "what", "person a 1 101", "what", "person a 1", "what",
		"0 dist -.7", "read 0 1 0", "seen -", "-.1\n-.7\n- -.1 -.7\nend",
		"person a 1 5", "fine", "seen abc", "end", "0 dist -.1", "read 0", "1 threes", "read 0 0",
		"0 node -.1", "fine", "0 node -.7", "fine", "0 edge - -.1 -.7", "fine", "0 dist -.1", "read 2 0 1", "0 near -.1", "read 0 7", "1 dist -.1", "read 2 0 1", "1 dist -.1", "read 2 0 1", "1 dist -.1", "spent",
		"person - 0 0", "fine", "1 node -.1", "fine", "1 near -.1", "read 1", "2 threes", "spent", "0 threes", "read 1 0",
	)
}

// TestDeskOfPeople: a fourth one may come, a fifth one may not, and is nobody.
func TestDeskOfPeople(t *testing.T) {
	wantLines(t,
		"person - 0 0", "fine", "person a 12 100", "fine", "person bc 12 0", "fine", "3 fill", "form", "person abc 0 100", "fine", "3 fill", "fine",
		"3 node abc.0", "fine", "2 node bc.0", "fine", "3 edge abc abc.0 bc.0", "fine",
		"person - 1 1", "what", "4 fill", "form", "4 core", "form", "4 node -.1", "form", "person - 13 1", "what", "person d 1 1", "what",
		"seen abc", "bc.0\nabc.0\nabc bc.0 abc.0\nend", "3 threes", "read 4 0", "0 threes", "read 0 0", "1 core", "read 0", "2 core", "spent",
	)
	for _, label := range append([]string{"-"}, labelNames[1:]...) {
		for size := -1; size <= 13; size++ {
			for _, quota := range []int{-1, 0, 1, 99, 100, 101} {
				wantRun(t, fmt.Sprintf("person %s %d %d\n0 node -.1\n0 threes\n0 fill", label, size, quota))
			}
		}
	}
}

// TestDeskWithoutPeople: a world of nothing is there from the first line on.
func TestDeskWithoutPeople(t *testing.T) {
	wantLines(t,
		"seen -", "end", "seen abc", "end", "0 node -.1", "form", "0 gone -.1", "form", "0 edge a -.1 a.1", "form", "0 cut a -.1 a.1", "form",
		"0 near -.1", "form", "0 dist -.1", "form", "0 core", "form", "0 threes", "form", "0 fill", "form", "-1 fill", "form", "0 fly", "what", "seen abc", "end",
	)
}

// TestDeskOfNobody: with WHO that is nobody's a line is done as any other.
func TestDeskOfNobody(t *testing.T) {
	for _, who := range []string{"-1", "1", "2", "4", "10", "100", "4294967296", "-4294967296", "99999999999999999", "-99999999999999999", "12345678901234567", "-10000000000000000"} {
		wantLines(t,
			"person abc 12 100", "fine", "0 node -.1", "fine", "0 node a.1", "fine",
			who+" node -.2", "form", who+" gone -.1", "form", who+" edge a -.1 a.1", "form", who+" cut a -.1 a.1", "form", who+" edge - -.1 -.1", "form",
			who+" near -.1", "form", who+" dist -.1", "form", who+" core", "form", who+" threes", "form", who+" fill", "form",
			who+" node -.41", "what", who+" core -.1", "what", who+" fly", "what", who, "what", who+" edge a -.1", "what",
			"seen abc", "-.1\na.1\nend", "0 threes", "read 2 0",
		)
	}
}

// wrongNumbers are texts that are no number's.
func wrongNumbers() []string {
	return []string{
		"-", "--1", "-0", "+0", "+1", "00", "01", "-01", "000", "1-", "1.", "1.0", ".1", "1e1", "0x1", "1_0", "x", "one", "1\t", "\t1", "\x001", "1\x00", "\xff", "१", "１", "−1", "1\r",
		"100000000000000000", "-100000000000000000", "999999999999999999", "000000000000000001", "18446744073709551616", "-18446744073709551616", "9223372036854775808", strings.Repeat("9", 1000),
	}
}

func TestDeskOfWrongNumbers(t *testing.T) {
	for _, number := range wrongNumbers() {
		wantLines(t, "person - 1 1", "fine",
			number+" fill", "what", number+" core", "what", number+" threes", "what", number+" node -.1", "what", number+" gone -.1", "what", number+" near -.1", "what", number+" dist -.1", "what",
			number+" edge - -.1 -.2", "what", number+" cut - -.1 -.2", "what", "person - "+number+" 1", "what", "person - 1 "+number, "what", "0 fill", "fine", "seen abc", "end")
	}
	wantLines(t, "person - 99999999999999999 1", "what", "person - 1 99999999999999999", "what", "person - -1 1", "what", "person - 1 -1", "what", "person - 0 0", "fine")
}

func TestDeskOfWrongNodes(t *testing.T) {
	for _, n := range wrongNodes() {
		wantLines(t, "person abc 12 100", "fine", "0 node a.1", "fine",
			"0 node "+n, "what", "0 gone "+n, "what", "0 near "+n, "what", "0 dist "+n, "what",
			"0 edge abc a.1 "+n, "what", "0 edge abc "+n+" a.1", "what", "0 cut abc a.1 "+n, "what", "0 cut abc "+n+" a.1", "what", "seen abc", "a.1\nend")
	}
}

func TestDeskOfWrongLabels(t *testing.T) {
	for _, label := range []string{"d", "ba", "cb", "ca", "acb", "cba", "aa", "abb", "bb", "aabc", "abcd", "A", "AB", "-a", "a-", "--", "0", "1", "7", "8", "a,b", "a.1", "a\t", "\x00", "\xff", "é", "а", "label", strings.Repeat("a", 1000)} {
		wantLines(t, "person abc 12 100", "fine", "0 node a.1", "fine", "0 node a.2", "fine",
			"person "+label+" 1 1", "what", "seen "+label, "what", "0 edge "+label+" a.1 a.2", "what", "0 cut "+label+" a.1 a.2", "what", "0 node "+label+".1", "what", "seen abc", "a.1\na.2\nend", "1 fill", "form")
	}
}

// wrongLines are none of the table, with words that each has its use elsewhere.
func wrongLines() []string {
	return []string{
		"x", "fly", "0", "-1", "00", "a.1", "-", ".", "WHO", "WHO fill", "WHO node a.1", "WHO 0 fill", "L", "N", "0 WHO fill", "0 WHO node a.1", "end", "fine", "what", "full", "long", "read 1 0", "#", "// 0 fill",
		"person", "person a", "person a 1", "person a 1 1 1", "person 1 1 a", "person 1 a 1", "person a 1 a", "0 person a 1 1", "person 0 a 1 1", "person a.1 1 1", "Person a 1 1", "persona 1 1", "persons a 1 1", "perso a 1 1",
		"seen", "seen a a", "seen a.1", "0 seen a", "seen 0", "seen 0 a", "Seen a", "seena", "see a",
		"node a.3", "gone a.1", "edge a a.1 a.2", "cut a a.1 a.2", "near a.1", "dist a.1", "core", "threes", "fill", "node 0 a.3", "fill 0",
		"0 node", "0 node a.3 a.3", "0 node a", "0 node 0", "0 node a 3", "0 Node a.3", "0 nodes a.3", "0 nod a.3", "0 0 node a.3", "0 node node a.3", "a node a.3", "0node a.3", "0 nodea.3",
		"0 gone", "0 gone a.1 a.2", "0 gone a", "0 GONE a.1", "x gone a.1",
		"0 edge", "0 edge a", "0 edge a a.1", "0 edge a.1 a.2", "0 edge a.1 a.2 a", "0 edge a.1 a a.2", "0 edge a a.1 a.2 a.2", "0 edge a a.1 a.2 a", "0 edges a a.1 a.2", "0 edge aa.1 a.2",
		"0 cut", "0 cut a", "0 cut a a.1", "0 cut a.1 a.2", "0 cut a.1 a.2 a", "0 cut a a.1 a.2 a.1", "x cut a a.1 a.2",
		"0 near", "0 near a", "0 near a.1 a.1", "0 near a.1 a.2", "0 dist", "0 dist a", "0 dist a.1 a.2", "a dist a.1",
		"0 core a.1", "0 core -.0", "0 core 0", "0 cores", "0 core core", "0 threes a.1", "0 threes 3", "0 three", "x threes", "0 fill 1", "0 fill a.1", "0 fill fill", "0 fil", "0 filll", "0,fill", "0 fill;", "0 fill\x00", "\x000 fill",
	}
}

// TestDeskOfWrongLines: each answers what, and nothing is done by it.
func TestDeskOfWrongLines(t *testing.T) {
	build := []string{
		"person - 2 9", "fine", "person abc 12 100", "fine", "1 node a.1", "fine", "1 node a.2", "fine", "1 edge a a.1 a.2", "fine", "1 edge abc a.1 a.2", "fine", "1 node -.0", "fine",
		"0 core", "read 1 0", "1 near a.1", "read 3 66",
	}
	behind := []string{"seen abc", "-.0\na.1\na.2\na a.1 a.2\nabc a.1 a.2\nend", "0 core", "read 0 0", "1 near a.1", "read 0 66", "2 fill", "form"}
	for _, line := range wrongLines() {
		wantLines(t, slices.Concat(build, []string{line, "what"}, behind)...)
		wantAnswer(t, line, "what\n")
	}
}

// TestDeskOfSpaces: any number of spaces stands for one, and none counts ahead or
// behind; nothing else is a space.
func TestDeskOfSpaces(t *testing.T) {
	for _, script := range []string{
		"person a 1 9\n0 node a.1\n0 node a.2\n0 edge a a.1 a.2\n0 dist a.1\nseen a",
		"  person a 1 9\n 0 node a.1\n    0 node a.2\n 0 edge a a.1 a.2\n 0 dist a.1\n seen a",
		"person a 1 9  \n0 node a.1 \n0 node a.2   \n0 edge a a.1 a.2 \n0 dist a.1 \nseen a ",
		"person  a   1    9\n0     node  a.1\n0  node   a.2\n0  edge  a  a.1  a.2\n0   dist a.1\nseen  a",
		"\n\n person a  1 9 \n  \n0 node a.1\n\n\n0 node a.2\n \n0 edge a a.1  a.2 \n\n0 dist a.1\n     \n\n  seen     a  \n\n \n\n",
		strings.Repeat(" ", 9000) + "person a 1 9\n0 node a.1\n0 node a.2\n0 edge a" + strings.Repeat(" ", 5000) + "a.1 a.2\n0 dist a.1\nseen a" + strings.Repeat(" ", 5000),
	} {
		wantAnswer(t, script, "fine\nfine\nfine\nfine\nread 2 0 1\na.1\na.2\na a.1 a.2\nend\n")
	}
	for _, script := range []string{"", " ", "\n", "  \n", "\n\n\n", " \n \n   ", strings.Repeat("\n", 20000), strings.Repeat(" ", 20000)} {
		wantAnswer(t, script, "")
	}
	for _, other := range []string{"\t", "\v", "\f", "\r", "\x00", "\u00a0", "\u0085", "\u2003", "\u2028", "\u2029", "\u3000", "\ufeff", "\xa0", "\x85", "\xff", "\xc0\xa0", "\xe2\x80", "\u007f"} {
		for _, line := range []string{other, "0" + other + "fill", "0 fill" + other, other + "0 fill", "0 fill " + other, other + " 0 fill", "0 " + other + " fill", "0" + other + "\tfill", "seen a" + other, "seen" + other + "a", "person a 1" + other + "1"} {
			wantLines(t, "person a 1 9", "fine", line, "what", "0 fill", "fine", line+" ", "what", " "+line, "what", "1 fill", "form")
		}
	}
	wantAnswer(t, "person a 1 9\r\n0 fill\r\n0 fill", "what\nwhat\nform\n")
}

// TestDeskOfCutText: bytes that begin a letter and do not end it take neither the
// space nor the newline behind them with them.
func TestDeskOfCutText(t *testing.T) {
	for _, bytes := range []string{"\xc3", "\xe2", "\xe2\x82", "\xf0", "\xf0\x9f", "\xf0\x9f\x98", "\xed\xa0\x80", "\xfe", "\xff", "\x80"} {
		wantAnswer(t, "person a 1 9\n"+bytes+"\n0 fill\n"+bytes+" 0 fill\n0 "+bytes+" fill\n0 fill", "fine\nwhat\nfine\nwhat\nwhat\nfine\n")
	}
}

func TestDeskOfLongText(t *testing.T) {
	pad := func(script string, size int) string { return script + strings.Repeat(" ", size-len(script)) }
	lines := func(script string, size int) string { return script + strings.Repeat("\n", size-len(script)) }
	for _, fill := range []func(string, int) string{pad, lines} {
		wantAnswer(t, fill(exampleScript, 19999), exampleAnswer)
		wantAnswer(t, fill(exampleScript, 20000), exampleAnswer)
		wantAnswer(t, fill(exampleScript, 20001), "long\n")
		wantAnswer(t, fill(exampleScript, 30000), "long\n")
	}
	long := strings.Repeat("x", 19999)
	wantAnswer(t, long+"\n", "what\n")
	wantAnswer(t, long+"x", "what\n")
	wantAnswer(t, long+"x\n", "long\n")
	wantAnswer(t, long+"xx", "long\n")
	wantAnswer(t, strings.Repeat("\n", 20001), "long\n")
	wantAnswer(t, strings.Repeat(" ", 20001), "long\n")
	// Its size is its number of bytes, not of letters.
	wantAnswer(t, strings.Repeat("€", 6666)+"xx", "what\n")
	wantAnswer(t, strings.Repeat("€", 6667), "long\n")
	wantAnswer(t, strings.Repeat("\xff", 20000), "what\n")
	wantAnswer(t, strings.Repeat("\xff", 20001), "long\n")
	wantAnswer(t, strings.Repeat("x", 1<<20), "long\n")
}

func TestDeskOfManyLines(t *testing.T) {
	what := func(count int) string { return strings.Repeat("what\n", count) }
	x := func(count int) string { return strings.Repeat("x\n", count) }
	wantAnswer(t, x(199), what(199))
	wantAnswer(t, x(200), what(200))
	wantAnswer(t, x(199)+"x", what(200))
	wantAnswer(t, x(200)+"x", what(200)+"full\n")
	wantAnswer(t, x(201), what(200)+"full\n")
	wantAnswer(t, x(5000), what(200)+"full\n")
	wantAnswer(t, x(200)+"\n  \n\n", what(200))
	wantAnswer(t, x(200)+"   ", what(200))
	wantAnswer(t, x(200)+"\n  \n\nseen -\nx", what(200)+"full\n")
	wantAnswer(t, x(200)+"person a 1 1\n0 fill\nx", what(200)+"full\n")
	wantAnswer(t, strings.Repeat("\n", 199)+"seen -", "end\n")
	wantAnswer(t, strings.Repeat("\n", 200)+"seen -", "full\n")
	wantAnswer(t, strings.Repeat(" \n", 200)+"\n\n", "")
	wantAnswer(t, strings.Repeat("x\n\n", 100)+"   \n x ", what(100)+"full\n")
	wantAnswer(t, "seen -\n"+strings.Repeat("  \n", 198)+"seen -\n\nseen -", "end\nend\nfull\n")
}

// fullAnswers is a script with a great graph, of which no node is without letters,
// and lines that answer so many bytes in all.
func fullAnswers(t *testing.T, size int) string {
	t.Helper()
	script := "person abc 0 0\n"
	for label := 1; label < 8; label++ {
		for num := 36; num <= 40; num++ {
			script += fmt.Sprintf("0 node %s.%d\n", labelNames[label], num)
		}
	}
	for _, pair := range []string{"36 37", "36 38", "36 39", "36 40", "37 38", "37 39", "37 40"} {
		a, b, _ := strings.Cut(pair, " ")
		script += fmt.Sprintf("0 edge abc abc.%s abc.%s\n", a, b)
	}
	left := size - len(strings.Join(runWanted(script), ""))
	great := len(strings.Join(runWanted(script+"seen abc"), "")) - (size - left)
	for ; left >= great+12; left -= great {
		script += "seen abc\n"
	}
	// The rest is made of lines that answer five bytes, and such that answer four.
	for ; left%5 > 0; left -= 4 {
		script += "seen -\n"
	}
	for ; left > 0; left -= 5 {
		script += "x\n"
	}
	if left != 0 || strings.Count(script, "\n") > 190 {
		t.Fatal(size, left, strings.Count(script, "\n"))
	}
	return script
}

func TestDeskOfMuchAnswered(t *testing.T) {
	for _, size := range []int{19990, 19999, 20000, 20001, 20002, 20005} {
		script := fullAnswers(t, size)
		all := wantRun(t, script)
		if len(all) != size {
			t.Fatal(size, len(all))
		}
		wantAnswer(t, script+"\n  \n", all)
		for line, answer := range map[string]string{"x": "what\n", "seen -": "end\n", "0 core": "spent\n", "0 gone abc.36": "fine\n", " 1 fill ": "form\n"} {
			if size > 20000 {
				answer = "full\n"
			}
			wantAnswer(t, script+line, all+answer)
			wantAnswer(t, script+"\n \n"+line+"\n\n", all+answer)
		}
	}
	// A line that is begun is answered whole, and only the next one is not.
	script := fullAnswers(t, 20000)
	much := wantRun(t, script+"seen abc\n")
	if len(much) < 20200 || !strings.HasSuffix(much, "\nend\n") {
		t.Error(len(much))
	}
	wantAnswer(t, script+"seen abc\n\n", much)
	wantAnswer(t, script+"seen abc\nx", much+"full\n")
	wantAnswer(t, script+"seen abc\nx\nx\nseen -", much+"full\n")
}

// wordsOfEv is the line by which something happens; none, if no line says it.
func wordsOfEv(r *rand.Rand, ev impl.Ev) string {
	name := nodeName
	switch {
	case ev.Kind == 1 && opLabelWanted(ev.Op) >= 0 && (ev.Op.Kind == 1 || ev.Op.Kind == 4):
		return fmt.Sprintf("%d %s %s", ev.Who, map[int]string{1: "node", 4: "gone"}[ev.Op.Kind], name(ev.Op.Node))
	case ev.Kind == 1 && opLabelWanted(ev.Op) >= 0:
		a, b := ev.Op.Edge.A, ev.Op.Edge.B
		if r.Intn(2) == 0 {
			a, b = b, a
		}
		return fmt.Sprintf("%d %s %s %s %s", ev.Who, map[int]string{2: "edge", 3: "cut"}[ev.Op.Kind], labelTextWanted(ev.Op.Edge.Label), name(a), name(b))
	case ev.Kind == 2 && queryWanted(ev.Query) && ev.Query.Kind <= 2:
		return fmt.Sprintf("%d %s %s", ev.Who, map[int]string{1: "near", 2: "dist"}[ev.Query.Kind], name(ev.Query.Node))
	case ev.Kind == 2 && queryWanted(ev.Query):
		return fmt.Sprintf("%d %s", ev.Who, map[int]string{3: "core", 4: "threes"}[ev.Query.Kind])
	case ev.Kind == 3:
		return fmt.Sprintf("%d fill", ev.Who)
	}
	return ""
}

func personLines(people []impl.Person) []string {
	var lines []string
	for _, p := range people {
		lines = append(lines, fmt.Sprintf("person %s %d %d", labelTextWanted(p.Clear), p.Size, p.Quota))
	}
	return lines
}

// randomLines are people, and what happens by them, with lines between that show
// the graph, that are wrong, or that bring one more.
func randomLines(r *rand.Rand, count int) []string {
	people := randomPeople(r)
	lines := personLines(people)
	for _, ev := range randomPlay(r, people, count) {
		wrong := wrongLines()
		switch chance := r.Intn(150); {
		case chance < 9:
			lines = append(lines, "seen "+labelTextWanted(r.Intn(8)))
		case chance < 12:
			lines = append(lines, wrong[r.Intn(len(wrong))])
		case chance < 14:
			lines = append(lines, "")
		case chance < 15:
			lines = append(lines, personLines(randomPeople(r))[0])
		}
		if line := wordsOfEv(r, ev); line != "" {
			lines = append(lines, line)
		}
	}
	return lines
}

func randomScript(r *rand.Rand, count int) string {
	text := strings.Join(randomLines(r, count), "\n")
	if r.Intn(2) == 0 {
		text = strings.ReplaceAll(text, " ", strings.Repeat(" ", 1+r.Intn(3)))
	}
	if r.Intn(2) == 0 {
		text += "\n"
	}
	return text
}

func TestDeskScripts(t *testing.T) {
	r := rand.New(rand.NewSource(90))
	met := map[string]int{}
	for range 250 {
		text := randomScript(r, 1+r.Intn(220))
		wantRun(t, text)
		for _, answer := range runWanted(text) {
			if words := strings.Fields(answer); len(words) > 0 {
				met[words[0]]++
			}
		}
	}
	for _, word := range append([]string{"read", "what", "end", "-.1"}, endNames...) {
		if met[word] < 20 {
			t.Error(word, met)
		}
	}
}

// TestDeskOfBentScripts turns bytes of scripts, so that many lines are almost such
// of the table.
func TestDeskOfBentScripts(t *testing.T) {
	r := rand.New(rand.NewSource(91))
	parts := []string{" ", "\n", "-", ".", "0", "1", "4", "a", "b", "c", "+", "\t", "\r", "\x00", "\xff", "é", "node", " edge ", "person ", "seen "}
	for range 600 {
		text := []byte(randomScript(r, 1+r.Intn(40)))
		for range 1 + r.Intn(12) {
			at := r.Intn(len(text))
			part := []byte(parts[r.Intn(len(parts))])
			text = slices.Concat(text[:at], part, text[min(len(text), at+r.Intn(3)):])
		}
		wantRun(t, string(text))
	}
	for range 300 {
		text := make([]byte, r.Intn(200))
		for i := range text {
			text[i] = byte(r.Intn(256))
		}
		wantRun(t, string(text))
		text = nil
		for range r.Intn(100) {
			text = append(text, parts[r.Intn(len(parts))]...)
		}
		wantRun(t, string(text))
	}
}

// TestDeskAnswersFirstLinesFirst is promise 9, of a script that is cut at the end
// of each of its lines in turn: what is answered then is what the whole one
// answers first, and the others answer behind it what they answer there.
func TestDeskAnswersFirstLinesFirst(t *testing.T) {
	r := rand.New(rand.NewSource(92))
	scripts := []string{exampleScript, strings.Repeat("seen -\n\n", 130), fullAnswers(t, 20003) + "x\nx\n"}
	for range 25 {
		scripts = append(scripts, randomScript(r, 1+r.Intn(60)))
	}
	for _, script := range scripts {
		whole, all := impl.DeskRun(script), runWanted(script)
		got := ""
		for i, line := range strings.SplitAfter(script, "\n") {
			ahead := strings.Join(strings.SplitAfter(script, "\n")[:i], "")
			before := impl.DeskRun(ahead)
			for _, end := range []string{line, strings.TrimSuffix(line, "\n")} {
				got = impl.DeskRun(ahead + end)
				if !strings.HasPrefix(whole, got) || !strings.HasPrefix(got, before) {
					t.Fatalf("%q answers %q, but %q, and %q %q", script, whole, ahead+end, ahead, before)
				}
				if i < len(all) && got != before+all[i] {
					t.Fatalf("%q answers %q behind %q, not %q", end, got, before, all[i])
				}
			}
		}
		if got != whole {
			t.Fatalf("%q answers %q, and %q", script, whole, got)
		}
	}
}

// TestDeskKeepsNothing: a script answers the same whatever was run ahead of it.
func TestDeskKeepsNothing(t *testing.T) {
	r := rand.New(rand.NewSource(93))
	wantAnswer(t, "0 fill\nseen abc", "form\nend\n")
	for range 20 {
		wantAnswer(t, exampleScript, exampleAnswer)
		wantRun(t, randomScript(r, 40))
		wantAnswer(t, "0 fill\nseen abc\n0 threes", "form\nend\nform\n")
	}
}

// answersOf has, for each line of a script, what it answers: all up to `end`, if
// it shows the graph, else the next line of the answer.
func answersOf(t *testing.T, lines []string) []string {
	t.Helper()
	left := impl.DeskRun(strings.Join(lines, "\n"))
	var all []string
	for _, line := range lines {
		end := strings.Index(left, "\n") + 1
		if strings.HasPrefix(line, "seen ") && !strings.HasPrefix(left, "end\n") {
			end = strings.Index(left, "\nend\n") + len("\nend\n")
		}
		if end <= 0 || end > len(left) {
			t.Fatal(line, left)
		}
		all = append(all, left[:end])
		left = left[end:]
	}
	if left != "" {
		t.Fatal(left)
	}
	return all
}

// seenAnswers makes a script of what happens, and is what it answers to those who
// see no more than clear: to what they do, and to a line behind each thing that
// they can see, which shows them the graph.
func seenAnswers(t *testing.T, r *rand.Rand, people []impl.Person, evs []impl.Ev, clear int) string {
	t.Helper()
	lines := personLines(people)
	names := make([]string, len(lines))
	for _, ev := range evs {
		line, name := wordsOfEv(r, ev), ""
		if line == "" {
			continue
		}
		if lowWanted(people, ev, clear) {
			name = fmt.Sprint(ev)
		}
		lines, names = append(lines, line), append(names, name)
		if keptWanted(people, ev, clear) {
			lines, names = append(lines, "seen "+labelTextWanted(clear)), append(names, "seen")
		}
	}
	told := ""
	for i, answer := range answersOf(t, lines) {
		if names[i] != "" {
			told += names[i] + ": " + answer
		}
	}
	return told
}

// TestDeskTellsNothingOfUnseen is promise 9: two scripts that differ only in what
// those who see no more than clear can not see answer them the same. (So do two
// that tell an edge from unlike ends.)
func TestDeskTellsNothingOfUnseen(t *testing.T) {
	r := rand.New(rand.NewSource(95))
	unlike := 0
	for range 30 {
		people := randomPeople(r)
		evs := randomPlay(r, people, 20+r.Intn(50))
		for clear := range 7 {
			want := seenAnswers(t, r, people, evs, clear)
			other := turnedPlay(r, people, evs, clear)
			for _, turned := range [][]impl.Ev{keptAlone(people, evs, clear), other} {
				if got := seenAnswers(t, r, otherRich(r, people, clear), turned, clear); got != want {
					t.Fatalf("%v with %d: %v answers %q, and %v %q", people, clear, evs, want, turned, got)
				}
			}
			if want != "" && !slices.Equal(other, evs) {
				unlike++
			}
		}
	}
	if unlike < 80 {
		t.Error(unlike)
	}
}

func keptAlone(people []impl.Person, evs []impl.Ev, clear int) []impl.Ev {
	return slices.DeleteFunc(slices.Clone(evs), func(ev impl.Ev) bool { return !keptWanted(people, ev, clear) })
}

// TestDeskTwoScripts is promise 9 in two scripts that are written out: one sees no
// letters, and what others do with letters turns nothing of what they are told.
func TestDeskTwoScripts(t *testing.T) {
	bare := []string{"person - 1 5", "person a 0 0", "0 node -.0", "1 node -.1", "0 dist -.0", "0 node a.0", "0 edge - -.1 -.0", "0 dist -.0", "0 near a.0", "0 gone -.1", "0 core", "seen -", "0 fill", "0 near -.0", "0 edge a -.0 a.0"}
	rich := []string{
		"person - 1 5", "person a 12 100", "1 node a.0", "0 node -.0", "1 edge a a.0 -.0", "1 node -.1", "1 edge a a.0 -.1", "1 edge a -.0 -.1", "0 dist -.0", "0 node a.0", "1 core", "0 edge - -.1 -.0",
		"1 dist a.0", "0 dist -.0", "1 fly", "0 near a.0", "seen a", "0 gone -.1", "1 threes", "0 core", "1 gone a.0", "seen -", "0 fill", "1 node a.5", "0 near -.0", "0 edge a -.0 a.0",
	}
	want := []string{"person - 1 5: fine\n", "0 node -.0: fine\n", "0 dist -.0: read 1 0 -1\n", "0 node a.0: denied\n", "0 edge - -.1 -.0: fine\n", "0 dist -.0: read 1 0 1\n", "0 near a.0: read 1\n", "0 gone -.1: fine\n", "0 core: read 0 0\n", "seen -: -.0\nend\n", "0 fill: fine\n", "0 near -.0: read 0\n", "0 edge a -.0 a.0: denied\n"}
	for _, lines := range [][]string{bare, rich} {
		var told []string
		for i, answer := range answersOf(t, lines) {
			if line := lines[i]; strings.HasPrefix(line, "0 ") || line == "seen -" || line == "person - 1 5" {
				told = append(told, line+": "+answer)
			}
		}
		if !slices.Equal(told, want) {
			t.Errorf("%q", told)
		}
		wantRun(t, strings.Join(lines, "\n"))
	}
}
