package relay

import (
	"math"
	"slices"
	"testing"

	"diaphone/api"
)

// leadsToOne reports whether a word leads from all states to one and the same.
func leadsToOne(b api.Box, word []int) bool {
	for from := range b.Out {
		if plainState(b, from, word) != plainState(b, 0, word) {
			return false
		}
	}
	return true
}

// canMeet reports whether some word leads from two states to one and the same.
func canMeet(b api.Box, i, j int) bool {
	seen := [][2]int{{i, j}}
	for k := 0; k < len(seen); k++ {
		p := seen[k]
		if p[0] == p[1] {
			return true
		}
		for input := range 2 {
			next := [2]int{b.Next[p[0]][input], b.Next[p[1]][input]}
			if !slices.Contains(seen, next) {
				seen = append(seen, next)
			}
		}
	}
	return false
}

// canAllMeet: states that can meet by two are led to one state, two after two.
func canAllMeet(b api.Box) bool {
	for i := range b.Out {
		for j := range b.Out {
			if !canMeet(b, i, j) {
				return false
			}
		}
	}
	return true
}

func TestP84Sync(t *testing.T) {
	words := wordsTo(9)
	for _, b := range someBoxes(3) {
		word, ok, e := Sync(b)
		wantBool(t, "Sync", ok, e, canAllMeet(b))
		if ok && !leadsToOne(b, word) {
			t.Errorf("Sync: %v does not lead to one state", word)
		}
		i := slices.IndexFunc(words, func(word []int) bool { return leadsToOne(b, word) })
		switch {
		case i >= 0:
			wantWord(t, "Sync", word, ok, e, words[i], true)
		case !ok:
			wantWord(t, "Sync", word, ok, e, nil, false)
		case len(word) <= 9 || len(b.Out) < 5:
			t.Errorf("Sync: %v, but no word as short leads to one state", word)
		}
		if t.Failed() {
			t.Fatalf("with %v", b)
		}
	}
}

func TestP84SyncExamples(t *testing.T) {
	for _, x := range []struct {
		b    api.Box
		want []int
		ok   bool
	}{
		{boxOf([]int{0, 1}, 1, 0, 1, 0), []int{0}, true}, {ring(0), nil, true}, {ring(0, 0), nil, false}, {boxOf([]int{0, 3}, 1, 0, 0, 1), nil, false}, {boxOf([]int{0, 0, 0}, 1, 0, 2, 1, 0, 0), []int{1, 0, 0, 1}, true},
		// The states 1 and 2 are not reached, but the word leads from them too.
		{boxOf([]int{0, 0, 0}, 0, 0, 0, 1, 0, 2), []int{0}, true}, {boxOf([]int{0, 0, 0}, 0, 0, 0, 0, 1, 1), []int{0, 0}, true}, {boxOf([]int{0, 0}, 0, 0, 1, 1), nil, false},
		{counter(6), []int{0}, true},
	} {
		word, ok, e := Sync(x.b)
		wantWord(t, "Sync", word, ok, e, x.want, x.ok)
	}
}

// TestP84SyncSlow asks for the longest words that are needed, of which there is one each.
func TestP84SyncSlow(t *testing.T) {
	for states := 2; states <= 6; states++ {
		want := []int{1}
		for range states - 2 {
			want = append(want, make([]int, states-1)...)
			want = append(want, 1)
		}
		word, ok, e := Sync(slow(states))
		wantWord(t, "Sync", word, ok, e, want, true)
		wantNumber(t, "inputs of Sync", len(word), e, (states-1)*(states-1))
	}
}

func TestP84Count(t *testing.T) {
	for _, b := range someBoxes(17) {
		for n := range 9 {
			var want [4]int
			for _, word := range wordsOf(n) {
				want[b.Out[plainState(b, 0, word)]]++
			}
			for out := range want {
				count, e := Count(b, n, out)
				wantNumber(t, "Count", count, e, want[out])
			}
		}
		if t.Failed() {
			t.Fatalf("with %v", b)
		}
	}
}

func TestP84CountExamples(t *testing.T) {
	two := boxOf([]int{0, 1}, 1, 0, 1, 0)
	for _, x := range []struct {
		b            api.Box
		n, out, want int
	}{
		{two, 3, 1, 4}, {two, 0, 0, 1}, {two, 0, 1, 0}, {two, 20, 0, 1 << 19}, {two, 20, 2, 0}, {ring(3), 20, 3, 1 << 20}, {ring(3), 0, 3, 1}, {ring(3), 20, 0, 0}, {ring(0, 1, 2), 20, 2, 1 << 20}, {ring(0, 1, 2), 19, 1, 1 << 19}, {ring(2, 0, 2), 5, 2, 32}, {counter(6), 5, 3, 1}, {counter(6), 4, 3, 0}, {counter(6), 6, 3, 2},
	} {
		count, e := Count(x.b, x.n, x.out)
		wantNumber(t, "Count", count, e, x.want)
	}
	// All words of 20 inputs, as numbers.
	b := mixed(1, 6, 4)[0]
	var want [4]int
	for k := range 1 << 20 {
		at := 0
		for i := range 20 {
			at = b.Next[at][k>>i&1]
		}
		want[b.Out[at]]++
	}
	for out := range want {
		count, e := Count(b, 20, out)
		wantNumber(t, "Count", count, e, want[out])
	}
}

func TestP84CountErrors(t *testing.T) {
	for _, b := range someBoxes(300) {
		for _, n := range []int{-1, 21, 22, 100, math.MinInt, math.MaxInt} {
			count, e := Count(b, n, 0)
			wantRefused(t, "Count", count == 0, e, api.ErrArg)
			count, e = Count(b, n, -1)
			wantRefused(t, "Count", count == 0, e, api.ErrArg)
		}
		for _, out := range []int{-1, 4, 5, math.MinInt, math.MaxInt, 1 << 32} {
			for _, n := range []int{0, 3, 20} {
				count, e := Count(b, n, out)
				wantRefused(t, "Count", count == 0, e, api.ErrArg)
			}
		}
	}
}

// TestP84Consequences asks for the sum of Count over all signals.
func TestP84Consequences(t *testing.T) {
	for _, b := range someBoxes(20) {
		for n := range 21 {
			sum := 0
			for out := range 4 {
				count, e := Count(b, n, out)
				if e != api.OK {
					t.Fatalf("Count %v %v %v: %v", b, n, out, e)
				}
				sum += count
			}
			wantNumber(t, "sum of Count", sum, api.OK, 1<<n)
		}
	}
}
