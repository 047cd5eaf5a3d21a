package relay

import (
	"testing"

	"diaphone/api"
)

// plainTell goes through all words of at most so many inputs: those of each length are the numbers from 0 on with so many binary digits.
func plainTell(a api.Box, i int, b api.Box, j, most int) ([]int, bool) {
	at := [][2]int{{i, j}}
	for count := range most + 1 {
		var after [][2]int
		for k, p := range at {
			if a.Out[p[0]] != b.Out[p[1]] {
				return digits(k, count), true
			}
			for input := range 2 {
				after = append(after, [2]int{a.Next[p[0]][input], b.Next[p[1]][input]})
			}
		}
		at = after
	}
	return nil, false
}

// digits returns so many binary digits of a number.
func digits(n, count int) []int {
	out := make([]int, count)
	for i := range out {
		out[i] = n >> (count - 1 - i) & 1
	}
	return out
}

func TestP83Tell(t *testing.T) {
	all := someBoxes(120)
	for _, a := range all {
		for _, b := range all {
			states := len(a.Out) + len(b.Out)
			want, ok := plainTell(a, 0, b, 0, states)
			word, is, e := Tell(a, b)
			wantWord(t, "Tell", word, is, e, want, ok)
			// Consequence.
			if len(word) >= states {
				t.Errorf("Tell: %v has %v inputs", word, len(word))
			}
			if t.Failed() {
				t.Fatalf("with %v and %v", a, b)
			}
		}
	}
}

func TestP83TellStates(t *testing.T) {
	for _, b := range someBoxes(5) {
		kinds, _ := Kinds(b)
		for i := range b.Out {
			for j := range b.Out {
				want, ok := plainTell(b, i, b, j, len(b.Out))
				word, is, e := TellStates(b, i, j)
				wantWord(t, "TellStates", word, is, e, want, ok)
				wantBool(t, "TellStates by Kinds", is, e, kinds[i] != kinds[j])
				if len(word) >= len(b.Out) {
					t.Errorf("TellStates: %v has %v inputs", word, len(word))
				}
			}
		}
		if t.Failed() {
			t.Fatalf("with %v", b)
		}
	}
}

func TestP83Examples(t *testing.T) {
	for _, x := range []struct {
		a, b api.Box
		want []int
		ok   bool
	}{
		{ring(0), ring(1), nil, true}, {ring(3), ring(3), nil, false}, {ring(0, 1), ring(0), []int{0}, true}, {ring(0, 1), ring(0, 1, 0, 1), nil, false},
		// The rings have the same first signals, as many as they can.
		{ring(0, 0, 0, 0, 1, 0), ring(0, 0, 0, 0, 1), make([]int, 9), true},
		{ring(0, 0, 0, 0, 0, 1), ring(0, 0, 0, 0, 0), make([]int, 5), true},
		{counter(6), ring(0), []int{1, 1, 1, 1, 1}, true}, {counter(6), counter(5), []int{1, 1, 1, 1}, true},
		// 0 1 and 1 0 tell them apart.
		{boxOf([]int{0, 0, 0, 1}, 1, 2, 0, 3, 3, 0, 0, 0), ring(0), []int{0, 1}, true},
		// 0 0 0 tells them apart, but 1 is shorter.
		{boxOf([]int{0, 0, 1, 0}, 1, 2, 3, 0, 0, 0, 2, 0), ring(0), []int{1}, true},
	} {
		word, ok, e := Tell(x.a, x.b)
		wantWord(t, "Tell", word, ok, e, x.want, x.ok)
		word, ok, e = Tell(x.b, x.a)
		wantWord(t, "Tell", word, ok, e, x.want, x.ok)
	}
	last := boxOf([]int{0, 0, 0, 0, 0, 1}, 1, 0, 2, 0, 3, 0, 4, 0, 5, 0, 5, 5)
	for _, x := range []struct {
		i, j int
		want []int
		ok   bool
	}{{0, 1, []int{0, 0, 0, 0}, true}, {1, 0, []int{0, 0, 0, 0}, true}, {3, 4, []int{0}, true}, {5, 0, nil, true}, {2, 2, nil, false}, {5, 5, nil, false}} {
		word, ok, e := TellStates(last, x.i, x.j)
		wantWord(t, "TellStates", word, ok, e, x.want, x.ok)
	}
	// These states are alike, and no word leads to them.
	word, ok, e := TellStates(boxOf([]int{0, 1, 1}, 0, 0, 1, 2, 2, 1), 1, 2)
	wantWord(t, "TellStates", word, ok, e, nil, false)
}

// TestP83ByRun asks Run about Tell: the answers differ in the last signal and in no other one.
func TestP83ByRun(t *testing.T) {
	all := someBoxes(200)
	for _, a := range all {
		for _, b := range all {
			word, ok, _ := Tell(a, b)
			if !ok {
				continue
			}
			one, _ := Run(a, word)
			other, e := Run(b, word)
			for i := range one {
				wantBool(t, "the signals are equal", one[i] == other[i], e, i < len(word))
			}
		}
	}
}
