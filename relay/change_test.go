package relay

import (
	"math"
	"slices"
	"testing"

	"diaphone/api"
)

// orders returns all orders of the numbers from 0 on that begin with 0.
func orders(count int) [][]int {
	var out [][]int
	for _, l := range lists(count-1, numbersFrom(1, count-1)...) {
		if len(slices.Compact(slices.Sorted(slices.Values(l)))) == count-1 {
			out = append(out, append([]int{0}, l...))
		}
	}
	return out
}

// wantAnswers holds the answers of a box to some words against others.
func wantAnswers(t *testing.T, what string, b api.Box, e api.Errno, words [][]int, want func(word []int) []int) {
	t.Helper()
	if e != api.OK || Validate(b) != api.OK {
		t.Fatalf("%s: %v %v", what, b, e)
	}
	for _, word := range words {
		if got := plainAnswer(b, word); !slices.Equal(got, want(word)) {
			t.Fatalf("%s: %v has the answer %v to %v, want %v", what, b, got, word, want(word))
		}
	}
}

func TestP85Rename(t *testing.T) {
	words := wordsTo(5)
	for count := 1; count <= 6; count++ {
		for _, b := range append(mixed(4, count, 4), ring(make([]int, count)...), counter(count)) {
			for _, to := range orders(count) {
				c, e := Rename(b, to)
				if e != api.OK || len(c.Next) != count || len(c.Out) != count {
					t.Fatalf("Rename %v %v: %v %v", b, to, c, e)
				}
				for i, number := range to {
					if c.Out[number] != b.Out[i] || c.Next[number][0] != to[b.Next[i][0]] || c.Next[number][1] != to[b.Next[i][1]] {
						t.Fatalf("Rename %v %v: %v", b, to, c)
					}
				}
				if count < 5 {
					wantAnswers(t, "Rename", c, e, words, func(word []int) []int { return plainAnswer(b, word) })
				}
				is, e := Same(b, c)
				wantBool(t, "Same of Rename", is, e, true)
			}
		}
	}
}

func TestP85RenameErrors(t *testing.T) {
	b := counter(3)
	for _, to := range append(lists(3, -1, 0, 1, 2, 3), append(lists(2, 0, 1, 2), lists(4, 0, 1, 2, 3)...)...) {
		c, e := Rename(b, to)
		if slices.Equal(to, []int{0, 1, 2}) || slices.Equal(to, []int{0, 2, 1}) {
			wantNumber(t, "states of Rename", len(c.Out), e, 3)
		} else {
			wantRefused(t, "Rename", isNone(c), e, api.ErrArg)
		}
		if t.Failed() {
			t.Fatalf("with %v", to)
		}
	}
	for _, to := range [][]int{nil, {}, {0}, {1}, make([]int, 100), {0, 1, math.MaxInt}, {0, math.MinInt, 1}, {0, 1, 1 << 32}, {0, 1, 2, 2}, {0, 1, 2, 7}, {0, 0, 1, 2}} {
		c, e := Rename(b, to)
		wantRefused(t, "Rename", isNone(c), e, api.ErrArg)
	}
	c, e := Rename(ring(1), nil)
	wantRefused(t, "Rename", isNone(c), e, api.ErrArg)
	c, e = Rename(ring(0, 1, 2, 3, 0, 1), []int{0, 1, 2, 3, 4, 6})
	wantRefused(t, "Rename", isNone(c), e, api.ErrArg)
	c, e = Rename(ring(0, 1, 2, 3, 0, 1), []int{5, 4, 3, 2, 1, 0})
	wantRefused(t, "Rename", isNone(c), e, api.ErrArg)
}

func TestP85From(t *testing.T) {
	words := wordsTo(5)
	for _, b := range someBoxes(29) {
		for number := range b.Out {
			c, e := From(b, number)
			wantAnswers(t, "From", c, e, words, func(word []int) []int {
				var want []int
				for count := range len(word) + 1 {
					want = append(want, b.Out[plainState(b, number, word[:count])])
				}
				return want
			})
			// All states but two keep their numbers.
			for i := range b.Out {
				if i != 0 && i != number && c.Out[i] != b.Out[i] {
					t.Fatalf("From %v %v: %v", b, number, c)
				}
			}
			again, e := From(c, number)
			wantBox(t, "From, twice", again, e, b)
			if t.Failed() {
				t.Fatalf("with %v and %v", b, number)
			}
		}
	}
}

func TestP85Late(t *testing.T) {
	words := wordsTo(5)
	for _, b := range someBoxes(17) {
		c, e := Late(b)
		if len(b.Out) == 6 {
			wantRefused(t, "Late", isNone(c), e, api.ErrLarge)
			continue
		}
		want := api.Box{Next: [][2]int{{1, 1}}, Out: append([]int{0}, b.Out...)}
		for _, next := range b.Next {
			want.Next = append(want.Next, [2]int{next[0] + 1, next[1] + 1})
		}
		wantBox(t, "Late", c, e, want)
		// Consequence.
		wantAnswers(t, "Late", c, e, words, func(word []int) []int {
			if len(word) == 0 {
				return []int{0}
			}
			return append([]int{0}, plainAnswer(b, word[1:])...)
		})
		if t.Failed() {
			t.Fatalf("with %v", b)
		}
	}
}

func TestP85Turn(t *testing.T) {
	words := wordsTo(5)
	for _, b := range someBoxes(17) {
		c, e := Turn(b)
		wantAnswers(t, "Turn", c, e, words, func(word []int) []int {
			var turned []int
			for _, input := range word {
				turned = append(turned, 1-input)
			}
			return plainAnswer(b, turned)
		})
		// Also states that are not reached are turned.
		for i, next := range b.Next {
			if c.Next[i][0] != next[1] || c.Next[i][1] != next[0] {
				t.Fatalf("Turn %v: %v", b, c)
			}
		}
		again, e := Turn(c)
		wantBox(t, "Turn, twice", again, e, b)
	}
}

func TestP85Signals(t *testing.T) {
	for _, b := range someBoxes(150) {
		for _, to := range lists(4, 0, 1, 2, 3) {
			want := api.Box{Next: b.Next}
			for _, signal := range b.Out {
				want.Out = append(want.Out, to[signal])
			}
			c, e := Signals(b, to)
			wantBox(t, "Signals", c, e, want)
		}
	}
}

func TestP85SignalsErrors(t *testing.T) {
	for _, b := range someBoxes(300) {
		for _, to := range lists(4, -1, 0, 3, 4) {
			c, e := Signals(b, to)
			if slices.Min(to) < 0 || slices.Max(to) > 3 {
				wantRefused(t, "Signals", isNone(c), e, api.ErrArg)
			} else {
				wantNumber(t, "states of Signals", len(c.Out), e, len(b.Out))
			}
		}
		// Also if the box has none of the signals that are replaced wrongly.
		for _, to := range [][]int{nil, {}, {0}, {0, 1, 2}, {0, 1, 2, 3, 0}, {0, 1, 2, 3, 4}, make([]int, 100), {0, 1, 2, math.MaxInt}, {math.MinInt, 1, 2, 3}, {0, 1 << 32, 0, 0}} {
			c, e := Signals(b, to)
			wantRefused(t, "Signals", isNone(c), e, api.ErrArg)
		}
	}
}

func TestP85Examples(t *testing.T) {
	b := boxOf([]int{0, 1, 2}, 1, 2, 0, 1, 2, 0)
	c, e := Rename(b, []int{0, 2, 1})
	wantBox(t, "Rename", c, e, boxOf([]int{0, 2, 1}, 2, 1, 1, 0, 0, 2))
	c, e = Rename(b, []int{0, 1, 2})
	wantBox(t, "Rename", c, e, b)
	c, e = From(b, 2)
	wantBox(t, "From", c, e, boxOf([]int{2, 1, 0}, 0, 2, 2, 1, 1, 0))
	c, e = From(b, 0)
	wantBox(t, "From", c, e, b)
	c, e = Late(b)
	wantBox(t, "Late", c, e, boxOf([]int{0, 0, 1, 2}, 1, 1, 2, 3, 1, 2, 3, 1))
	c, e = Late(ring(3))
	wantBox(t, "Late", c, e, boxOf([]int{0, 3}, 1, 1, 1, 1))
	c, e = Late(ring(1, 2, 3, 1, 2))
	wantBox(t, "Late", c, e, boxOf([]int{0, 1, 2, 3, 1, 2}, 1, 1, 2, 2, 3, 3, 4, 4, 5, 5, 1, 1))
	c, e = Turn(b)
	wantBox(t, "Turn", c, e, boxOf([]int{0, 1, 2}, 2, 1, 1, 0, 0, 2))
	c, e = Signals(b, []int{3, 0, 3, 1})
	wantBox(t, "Signals", c, e, boxOf([]int{3, 0, 3}, 1, 2, 0, 1, 2, 0))
}
