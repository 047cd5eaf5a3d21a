package relay

import (
	"slices"
	"testing"
)

func TestP81Reached(t *testing.T) {
	words := wordsTo(6)
	for _, b := range someBoxes(7) {
		first := map[int][]int{}
		for _, word := range words {
			number := plainState(b, 0, word)
			if _, ok := first[number]; !ok {
				first[number] = word
			}
		}
		var want []int
		for number := range b.Out {
			word, ok := first[number]
			if ok {
				want = append(want, number)
			}
			got, is, e := To(b, number)
			wantWord(t, "To", got, is, e, word, ok)
		}
		l, e := Reached(b)
		wantList(t, "Reached", l, e, want...)
		if t.Failed() {
			t.Fatalf("with %v", b)
		}
	}
}

func TestP81ReachedExamples(t *testing.T) {
	l, e := Reached(ring(0))
	wantList(t, "Reached", l, e, 0)
	l, e = Reached(boxOf([]int{0, 1, 1}, 2, 2, 1, 1, 2, 2))
	wantList(t, "Reached", l, e, 0, 2)
	l, e = Reached(boxOf(make([]int, 6), 5, 4, 0, 0, 0, 0, 2, 2, 3, 4, 5, 5))
	wantList(t, "Reached", l, e, 0, 2, 3, 4, 5)
	word, ok, e := To(ring(0, 0, 0, 0, 0, 0), 5)
	wantWord(t, "To", word, ok, e, []int{0, 0, 0, 0, 0}, true)
	word, ok, e = To(counter(6), 5)
	wantWord(t, "To", word, ok, e, []int{1, 1, 1, 1, 1}, true)
	// The state 0 is reached by no input.
	word, ok, e = To(counter(6), 0)
	wantWord(t, "To", word, ok, e, nil, true)
	word, ok, e = To(boxOf([]int{0, 0}, 0, 0, 0, 0), 1)
	wantWord(t, "To", word, ok, e, nil, false)
	// 0 1 and 1 0 lead to the state 3.
	word, ok, e = To(boxOf(make([]int, 4), 1, 2, 0, 3, 3, 0, 0, 0), 3)
	wantWord(t, "To", word, ok, e, []int{0, 1}, true)
	// 0 0 0 leads to the state 2, but 1 is shorter.
	word, ok, e = To(boxOf(make([]int, 4), 1, 2, 3, 0, 0, 0, 2, 0), 2)
	wantWord(t, "To", word, ok, e, []int{1}, true)
}

// TestP81ToState asks State about To.
func TestP81ToState(t *testing.T) {
	for _, b := range someBoxes(11) {
		reached, _ := Reached(b)
		for number := range b.Out {
			word, ok, e := To(b, number)
			wantBool(t, "To", ok, e, slices.Contains(reached, number))
			if ok {
				at, e := State(b, word)
				wantNumber(t, "State", at, e, number)
			}
		}
	}
}
