package tests

import (
	"math"
	"slices"
	"strings"
	"testing"

	"loop.example/hagioscope/impl"
)

// labelNames is the document's order of labels, written out: the tests hold
// letters of these texts against each other, not bits.
var labelNames = []string{"", "a", "b", "ab", "c", "ac", "bc", "abc"}

// noLabels are numbers that are no label; many of them would be one if they
// were cut to fewer bits.
var noLabels = []int{
	-1, -2, -7, -8, -248, -256, 8, 9, 15, 16, 255, 256, 257, 263,
	1 << 16, 1<<16 + 1, 1 << 32, 1<<32 + 7, -1 << 32, -1<<32 + 5,
	math.MaxInt32, math.MinInt32, math.MaxInt, math.MaxInt - 1, math.MinInt, math.MinInt + 1, math.MinInt + 7,
}

func lettersIn(name, other string) bool {
	for _, r := range name {
		if !strings.ContainsRune(other, r) {
			return false
		}
	}
	return true
}

func labelOfLetters(keep func(letter string) bool) int {
	name := ""
	for _, letter := range []string{"a", "b", "c"} {
		if keep(letter) {
			name += letter
		}
	}
	return slices.Index(labelNames, name)
}

func TestLabelBounds(t *testing.T) {
	if impl.LabelLetters != 3 || impl.LabelMost != 7 {
		t.Error(impl.LabelLetters, impl.LabelMost)
	}
}

func TestLabelOk(t *testing.T) {
	for a := range labelNames {
		if !impl.LabelOk(a) {
			t.Error(a)
		}
	}
	for _, a := range noLabels {
		if impl.LabelOk(a) {
			t.Error(a)
		}
	}
}

func TestLabelHas(t *testing.T) {
	for a, name := range labelNames {
		for i, letter := range []string{"a", "b", "c"} {
			if impl.LabelHas(a, i) != strings.Contains(name, letter) {
				t.Error(a, i)
			}
		}
		for _, i := range []int{-1, -2, -3, 3, 4, 8, 31, 32, 63, 64, 256, 1 << 32, math.MaxInt, math.MinInt} {
			if impl.LabelHas(a, i) {
				t.Error(a, i)
			}
		}
	}
	for _, a := range noLabels {
		for _, i := range []int{-1, 0, 1, 2, 3, math.MaxInt, math.MinInt} {
			if impl.LabelHas(a, i) {
				t.Error(a, i)
			}
		}
	}
}

func TestLabelUnderIsOfLetters(t *testing.T) {
	for a, x := range labelNames {
		for b, y := range labelNames {
			if impl.LabelUnder(a, b) != lettersIn(x, y) {
				t.Error(a, b)
			}
		}
	}
}

func TestLabelUnderIsAnOrder(t *testing.T) {
	for a := range labelNames {
		if !impl.LabelUnder(a, a) || !impl.LabelUnder(0, a) || !impl.LabelUnder(a, impl.LabelMost) {
			t.Error(a)
		}
		for b := range labelNames {
			if a != b && impl.LabelUnder(a, b) && impl.LabelUnder(b, a) {
				t.Error(a, b)
			}
			for c := range labelNames {
				if impl.LabelUnder(a, b) && impl.LabelUnder(b, c) && !impl.LabelUnder(a, c) {
					t.Error(a, b, c)
				}
			}
		}
	}
}

func TestLabelJoinIsLeastAbove(t *testing.T) {
	for a, x := range labelNames {
		for b, y := range labelNames {
			join := impl.LabelJoin(a, b)
			want := labelOfLetters(func(s string) bool { return strings.Contains(x, s) || strings.Contains(y, s) })
			if join != want || !impl.LabelUnder(a, join) || !impl.LabelUnder(b, join) {
				t.Error(a, b, join)
			}
			for c := range labelNames {
				if impl.LabelUnder(a, c) && impl.LabelUnder(b, c) && !impl.LabelUnder(join, c) {
					t.Error(a, b, c)
				}
			}
		}
	}
}

func TestLabelMeetIsGreatestBelow(t *testing.T) {
	for a, x := range labelNames {
		for b, y := range labelNames {
			meet := impl.LabelMeet(a, b)
			want := labelOfLetters(func(s string) bool { return strings.Contains(x, s) && strings.Contains(y, s) })
			if meet != want || !impl.LabelUnder(meet, a) || !impl.LabelUnder(meet, b) {
				t.Error(a, b, meet)
			}
			for c := range labelNames {
				if impl.LabelUnder(c, a) && impl.LabelUnder(c, b) && !impl.LabelUnder(c, meet) {
					t.Error(a, b, c)
				}
			}
		}
	}
}

func wantNoPair(t *testing.T, a int, b int) {
	t.Helper()
	if impl.LabelUnder(a, b) || impl.LabelJoin(a, b) != 0 || impl.LabelMeet(a, b) != 0 {
		t.Error(a, b)
	}
}

func TestLabelPairsWithNoLabel(t *testing.T) {
	for _, wrong := range noLabels {
		for a := range labelNames {
			wantNoPair(t, wrong, a)
			wantNoPair(t, a, wrong)
		}
		for _, other := range noLabels {
			wantNoPair(t, wrong, other)
		}
	}
}

func TestLabelMany(t *testing.T) {
	for a, name := range labelNames {
		if impl.LabelMany(a) != len(name) {
			t.Error(a)
		}
	}
	for _, a := range noLabels {
		if impl.LabelMany(a) != 0 {
			t.Error(a)
		}
	}
}

func TestLabelAll(t *testing.T) {
	for a, x := range labelNames {
		var want []int
		for b, y := range labelNames {
			if lettersIn(y, x) {
				want = append(want, b)
			}
		}
		if got := impl.LabelAll(a); !slices.Equal(got, want) {
			t.Error(a, got)
		}
	}
	for _, a := range noLabels {
		if got := impl.LabelAll(a); len(got) != 0 {
			t.Error(a, got)
		}
	}
}

func TestLabelAllIsNewMemory(t *testing.T) {
	for a := range labelNames {
		first, second := impl.LabelAll(a), impl.LabelAll(a)
		kept := slices.Clone(second)
		spare := first[:cap(first)]
		for i := range spare {
			spare[i] = -9
		}
		if !slices.Equal(second, kept) || !slices.Equal(impl.LabelAll(a), kept) || slices.Contains(second[:cap(second)], -9) {
			t.Error(a)
		}
	}
}

func labelTextWanted(a int) string {
	if labelNames[a] == "" {
		return "-"
	}
	return labelNames[a]
}

func TestLabelText(t *testing.T) {
	for a := range labelNames {
		if got := impl.LabelText(a); got != labelTextWanted(a) {
			t.Error(a, got)
		}
	}
	for _, a := range noLabels {
		if got := impl.LabelText(a); got != "" {
			t.Error(a, got)
		}
	}
}

func TestLabelReadOfText(t *testing.T) {
	for a := range labelNames {
		if got, ok := impl.LabelRead(labelTextWanted(a)); !ok || got != a {
			t.Error(a, got, ok)
		}
	}
}

// wantRead asks for a label just where the text is one label's.
func wantRead(t *testing.T, text string) {
	t.Helper()
	want := slices.Index(labelNames, text)
	if text == "-" {
		want = 0
	} else if text == "" {
		want = -1
	}
	got, ok := impl.LabelRead(text)
	if ok != (want >= 0) || got != max(want, 0) {
		t.Errorf("%q: %d, %v", text, got, ok)
	}
}

func TestLabelReadOfAllShortTexts(t *testing.T) {
	texts := []string{""}
	for range 4 {
		var longer []string
		for _, text := range texts {
			wantRead(t, text)
			for _, s := range []string{"-", "a", "b", "c", "d", "A", "0", " ", "\n", "\x00", "\xff", "é", "а"} {
				longer = append(longer, text+s)
			}
		}
		texts = longer
	}
	for _, text := range texts {
		wantRead(t, text)
	}
}

func TestLabelReadOfOtherTexts(t *testing.T) {
	for _, text := range []string{"label", "abcd", "abc-", "ABC", "0", "7", "a,b", "a.b", strings.Repeat("a", 100000), strings.Repeat("abc", 1000), strings.Repeat("-", 1000)} {
		wantRead(t, text)
	}
}
