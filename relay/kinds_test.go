package relay

import (
	"slices"
	"testing"

	"diaphone/api"
)

// plainKinds holds the answers of states to all words of so many inputs against each other.
func plainKinds(b api.Box) []int {
	var out []int
	for i := range b.Out {
		alike := func(j int) bool {
			_, told := plainTell(b, j, b, i, len(b.Out))
			return !told
		}
		out = append(out, slices.IndexFunc(numbersFrom(0, len(b.Out)), alike))
	}
	return out
}

// plainSmallest goes through the sets of states that are alike.
func plainSmallest(b api.Box) api.Box {
	kinds := plainKinds(b)
	setOf := func(number int) []int {
		var out []int
		for i, kind := range kinds {
			if kind == kinds[number] {
				out = append(out, i)
			}
		}
		return out
	}
	sets := [][]int{setOf(0)}
	at := func(s []int) int {
		return slices.IndexFunc(sets, func(t []int) bool { return slices.Equal(s, t) })
	}
	var out api.Box
	for i := 0; i < len(sets); i++ {
		// The last state of a set is as good as the others.
		last := sets[i][len(sets[i])-1]
		var next [2]int
		for input := range 2 {
			s := setOf(b.Next[last][input])
			if at(s) < 0 {
				sets = append(sets, s)
			}
			next[input] = at(s)
		}
		out.Next = append(out.Next, next)
		out.Out = append(out.Out, b.Out[last])
	}
	return out
}

func TestP82Kinds(t *testing.T) {
	for _, b := range someBoxes(3) {
		l, e := Kinds(b)
		wantList(t, "Kinds", l, e, plainKinds(b)...)
		c, e := Smallest(b)
		wantBox(t, "Smallest", c, e, plainSmallest(b))
		if t.Failed() {
			t.Fatalf("with %v", b)
		}
	}
}

func TestP82Examples(t *testing.T) {
	for _, x := range []struct {
		b     api.Box
		kinds []int
		want  api.Box
	}{
		{boxOf([]int{0, 1, 1}, 1, 2, 1, 2, 1, 2), []int{0, 1, 1}, boxOf([]int{0, 1}, 1, 1, 1, 1)},
		{boxOf([]int{0, 1}, 1, 0, 1, 0), []int{0, 1}, boxOf([]int{0, 1}, 1, 0, 1, 0)},
		{ring(2), []int{0}, ring(2)},
		{ring(2, 2, 2, 2, 2, 2), []int{0, 0, 0, 0, 0, 0}, ring(2)},
		{ring(0, 1, 0, 1, 0, 1), []int{0, 1, 0, 1, 0, 1}, ring(0, 1)},
		{ring(0, 0, 1, 0, 0, 1), []int{0, 1, 2, 0, 1, 2}, ring(0, 0, 1)},
		{ring(0, 0, 0, 0, 0, 1), []int{0, 1, 2, 3, 4, 5}, ring(0, 0, 0, 0, 0, 1)},
		{counter(6), []int{0, 1, 2, 3, 4, 5}, counter(6)},
		{slow(6), []int{0, 0, 0, 0, 0, 0}, ring(0)},
		// No word leads to the state 1, but it stands for the state 2, which is alike.
		{boxOf([]int{0, 1, 1}, 2, 2, 1, 1, 2, 2), []int{0, 1, 1}, boxOf([]int{0, 1}, 1, 1, 1, 1)},
		// The states are found in another order than that of their numbers.
		{boxOf([]int{0, 1, 2}, 2, 1, 1, 1, 2, 2), []int{0, 1, 2}, boxOf([]int{0, 2, 1}, 1, 2, 1, 1, 2, 2)},
		{boxOf([]int{3, 2, 1, 0}, 3, 0, 1, 1, 1, 0, 0, 2), []int{0, 1, 2, 3}, boxOf([]int{3, 0, 1, 2}, 1, 0, 0, 2, 3, 0, 3, 3)},
		// The kinds of states to which no word leads are not in the smallest box.
		{boxOf([]int{0, 1, 1, 2}, 0, 0, 3, 2, 3, 1, 0, 1), []int{0, 1, 1, 3}, ring(0)},
	} {
		l, e := Kinds(x.b)
		wantList(t, "Kinds", l, e, x.kinds...)
		c, e := Smallest(x.b)
		wantBox(t, "Smallest", c, e, x.want)
		is, e := Same(x.b, x.want)
		wantBool(t, "Same", is, e, true)
	}
}

// TestP82Same holds Same against all words, and against the smallest boxes (S8).
func TestP82Same(t *testing.T) {
	all := someBoxes(120)
	for _, a := range all {
		for _, b := range all {
			_, told := plainTell(a, 0, b, 0, len(a.Out)+len(b.Out))
			is, e := Same(a, b)
			wantBool(t, "Same", is, e, !told)
			c, _ := Smallest(a)
			d, _ := Smallest(b)
			wantBool(t, "Same by Smallest", is, e, equal(c, d))
			if t.Failed() {
				t.Fatalf("with %v and %v", a, b)
			}
		}
	}
}

// TestP82Consequences asks whether the smallest box answers alike, is its own smallest box, and has as few states as any that answers alike.
func TestP82Consequences(t *testing.T) {
	fewer := append(boxesOf(1, 0, 1), boxesOf(2, 0, 1)...)
	words := wordsTo(5)
	for i, b := range append(boxesOf(3, 0, 1), mixed(300, 6, 2)...) {
		small, e := Smallest(b)
		is, f := Same(b, small)
		again, g := Smallest(small)
		if e != api.OK || f != api.OK || !is {
			t.Fatalf("Smallest of %v: %v %v, Same %v %v", b, small, e, is, f)
		}
		wantBox(t, "Smallest of the smallest box", again, g, small)
		kinds, e := Kinds(small)
		wantList(t, "Kinds of the smallest box", kinds, e, numbersFrom(0, len(small.Out))...)
		if i%20 != 0 {
			continue
		}
		for _, word := range words {
			answer, e := Run(small, word)
			wantList(t, "Run of the smallest box", answer, e, plainAnswer(b, word)...)
		}
		for _, c := range fewer {
			if is, _ := Same(b, c); is && len(c.Out) < len(small.Out) {
				t.Fatalf("Smallest of %v: %v, but %v has fewer states", b, small, c)
			}
		}
	}
}
