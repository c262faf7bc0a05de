package impl

import "math/bits"

// Bounds of labels.
const (
	LabelLetters = 3
	LabelMost    = 7
)

// letters is a label's letters, the letter i being the bit i. Only lettersOf
// makes one from a number, so that each has its text in labelTexts.
type letters uint8

var labelTexts = [LabelMost + 1]string{"-", "a", "b", "ab", "c", "ac", "bc", "abc"}

// lettersOf looks at the number ahead of narrowing it: a great one would wrap
// round into a label.
func lettersOf(a int) (letters, bool) {
	if a < 0 || a > LabelMost {
		return 0, false
	}
	return letters(a), true
}

func bothLetters(a int, b int) (letters, letters, bool) {
	x, xOk := lettersOf(a)
	y, yOk := lettersOf(b)
	return x, y, xOk && yOk
}

// has bounds i itself: a shift by a number below 0 would panic.
func (l letters) has(i int) bool {
	return i >= 0 && i < LabelLetters && l>>i&1 == 1
}

func (l letters) under(m letters) bool { return l&^m == 0 }

func (l letters) join(m letters) letters { return l | m }

func (l letters) meet(m letters) letters { return l & m }

func (l letters) many() int { return bits.OnesCount8(uint8(l)) }

func (l letters) text() string { return labelTexts[l] }

// LabelOk says whether a number is a label.
func LabelOk(a int) bool {
	_, ok := lettersOf(a)
	return ok
}

// LabelHas says whether a label has a letter.
func LabelHas(a int, i int) bool {
	l, ok := lettersOf(a)
	return ok && l.has(i)
}

// LabelUnder says whether a label has no letter that another one has not.
func LabelUnder(a int, b int) bool {
	l, m, ok := bothLetters(a, b)
	return ok && l.under(m)
}

// LabelJoin is all letters of two labels.
func LabelJoin(a int, b int) int {
	l, m, ok := bothLetters(a, b)
	if !ok {
		return 0
	}
	return int(l.join(m))
}

// LabelMeet is the letters that two labels have both.
func LabelMeet(a int, b int) int {
	l, m, ok := bothLetters(a, b)
	if !ok {
		return 0
	}
	return int(l.meet(m))
}

// LabelMany is how many letters a label has.
func LabelMany(a int) int {
	l, ok := lettersOf(a)
	if !ok {
		return 0
	}
	return l.many()
}

// LabelAll is all labels that are under one.
func LabelAll(a int) []int {
	var all []int
	for b := range LabelMost + 1 {
		if LabelUnder(b, a) {
			all = append(all, b)
		}
	}
	return all
}

// LabelText writes a label.
func LabelText(a int) string {
	l, ok := lettersOf(a)
	if !ok {
		return ""
	}
	return l.text()
}

// LabelRead reads a label.
func LabelRead(text string) (int, bool) {
	for a, known := range labelTexts {
		if known == text {
			return a, true
		}
	}
	return 0, false
}
