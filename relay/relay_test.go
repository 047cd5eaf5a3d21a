package relay

import (
	"math"
	"slices"
	"testing"

	"diaphone/api"
)

// lists returns all lists of so many numbers of a selection.
func lists(count int, of ...int) [][]int {
	out := [][]int{nil}
	for range count {
		var longer [][]int
		for _, l := range out {
			for _, n := range of {
				longer = append(longer, append(slices.Clone(l), n))
			}
		}
		out = longer
	}
	return out
}

// boxOf makes a box of signals, and of the next states one after another.
func boxOf(out []int, next ...int) api.Box {
	b := api.Box{Out: slices.Clone(out)}
	for both := range slices.Chunk(next, 2) {
		b.Next = append(b.Next, [2]int{both[0], both[1]})
	}
	return b
}

// boxesOf returns all boxes of so many states with signals of a selection.
func boxesOf(count int, signals ...int) []api.Box {
	var out []api.Box
	for _, next := range lists(2*count, numbersFrom(0, count)...) {
		for _, signal := range lists(count, signals...) {
			out = append(out, boxOf(signal, next...))
		}
	}
	return out
}

// mixed makes boxes by a rule that mixes its numbers.
func mixed(count, states, signals int) []api.Box {
	n := 12345 + 7*states + signals
	number := func(below int) int {
		n = (n*1103515245 + 12345) % (1 << 31)
		return n >> 8 % below
	}
	var out []api.Box
	for range count {
		var next, signal []int
		for range states {
			next = append(next, number(states), number(states))
			signal = append(signal, number(signals))
		}
		out = append(out, boxOf(signal, next...))
	}
	return out
}

// ring goes from state to state on both inputs, and round.
func ring(signals ...int) api.Box {
	b := api.Box{Out: signals}
	for i := range signals {
		to := (i + 1) % len(signals)
		b.Next = append(b.Next, [2]int{to, to})
	}
	return b
}

// slow comes to one state by words as long as they can be: the input 0 leads round, the input 1 from the last state to the first one.
func slow(states int) api.Box {
	b := ring(make([]int, states)...)
	for i := range b.Next {
		b.Next[i][1] = i
	}
	b.Next[states-1][1] = 0
	return b
}

// counter goes to the next state on the input 1, and back to the first one on 0; only the last one gives the signal 3.
func counter(states int) api.Box {
	b := api.Box{Out: make([]int, states)}
	for i := range states {
		b.Next = append(b.Next, [2]int{0, min(i+1, states-1)})
	}
	b.Out[states-1] = 3
	return b
}

func edgeBoxes() []api.Box {
	out := []api.Box{
		boxOf([]int{0, 1}, 1, 0, 1, 0), boxOf([]int{0, 1, 1}, 1, 2, 1, 2, 1, 2),
		// All states are alike.
		ring(2, 2, 2, 2, 2, 2), boxOf([]int{1, 1, 1, 1, 1, 1}, 5, 4, 3, 2, 1, 0, 0, 1, 2, 3, 4, 5),
		// Some states are not reached, also the smallest one that is alike.
		boxOf([]int{0, 1, 1}, 2, 2, 1, 1, 2, 2), boxOf([]int{3, 1, 1, 1, 1, 0}, 0, 3, 2, 2, 1, 4, 4, 3, 3, 0, 5, 5), boxOf([]int{0, 2, 0, 0, 0, 1}, 0, 2, 1, 1, 2, 4, 0, 1, 4, 3, 0, 0),
		// It never comes to one state.
		boxOf([]int{0, 3}, 1, 0, 0, 1),
		ring(0, 0, 0, 0, 0, 1), ring(0, 1, 0, 1, 0, 1), ring(0, 0, 1, 0, 0, 1), ring(0, 1, 0, 2, 0), ring(0, 1, 0, 1, 0, 1),
	}
	for states := 1; states <= 6; states++ {
		out = append(out, slow(states), counter(states))
	}
	return out
}

// someBoxes returns all small boxes, and every so many of a selection of large ones.
func someBoxes(each int) []api.Box {
	var most []api.Box
	most = append(most, boxesOf(2, 0, 1, 2, 3)...)
	most = append(most, boxesOf(3, 0, 1)...)
	for states := 3; states <= 6; states++ {
		for signals := 1; signals <= 4; signals++ {
			most = append(most, mixed(300, states, signals)...)
		}
	}
	out := append(edgeBoxes(), boxesOf(1, 0, 1, 2, 3)...)
	for i, b := range most {
		if i%each == 0 {
			out = append(out, b)
		}
	}
	return out
}

// wordsOf returns all words of so many inputs in ascending order.
func wordsOf(count int) [][]int {
	return lists(count, 0, 1)
}

// wordsTo returns all words of at most so many inputs: shorter ones first, and equally long ones in ascending order.
func wordsTo(most int) [][]int {
	var out [][]int
	for count := range most + 1 {
		out = append(out, wordsOf(count)...)
	}
	return out
}

// plainState returns the state to which a word leads from some state on.
func plainState(b api.Box, from int, word []int) int {
	for _, input := range word {
		from = b.Next[from][input]
	}
	return from
}

func plainAnswer(b api.Box, word []int) []int {
	var out []int
	for count := range len(word) + 1 {
		out = append(out, b.Out[plainState(b, 0, word[:count])])
	}
	return out
}

// longWords are of 39 and 40 inputs.
func longWords() [][]int {
	out := [][]int{make([]int, 40), make([]int, 39), slices.Repeat([]int{1}, 40), slices.Repeat([]int{0, 1}, 20), slices.Repeat([]int{1, 1, 0}, 13)}
	return append(out, append(make([]int, 39), 1))
}

// invalid returns boxes that are not as they should be.
func invalid() []api.Box {
	out := []api.Box{
		{}, {Next: [][2]int{}, Out: []int{}}, {Next: [][2]int{{0, 0}}}, {Out: []int{0}},
		boxOf([]int{0, 0}, 0, 0), boxOf([]int{0}, 0, 0, 0, 0), boxOf([]int{0}, 0, 0, 1, 1), boxOf(make([]int, 5), make([]int, 12)...), boxOf(make([]int, 6), make([]int, 10)...),
		boxOf(make([]int, 7), make([]int, 14)...), boxOf(make([]int, 7), make([]int, 12)...), boxOf(make([]int, 6), make([]int, 14)...), boxOf(make([]int, 100), make([]int, 200)...),
	}
	for _, wrong := range []int{-1, 6, 7, math.MinInt, math.MaxInt, 1 << 32} {
		for at := range 12 {
			b := ring(0, 1, 2, 3, 0, 1)
			b.Next[at/2][at%2] = wrong
			out = append(out, b)
		}
	}
	for _, wrong := range []int{-1, 4, 5, math.MinInt, math.MaxInt, 1 << 32} {
		for at := range 6 {
			b := ring(0, 1, 2, 3, 0, 1)
			b.Out[at] = wrong
			out = append(out, b)
		}
		out = append(out, boxOf([]int{wrong}, 0, 0))
	}
	return append(out, boxOf([]int{0}, 0, 1), boxOf([]int{0}, 1, 0), boxOf([]int{0, 0}, 0, 1, 1, 2))
}

func wantRefused(t *testing.T, what string, zero bool, got, want api.Errno) {
	t.Helper()
	if got != want || !zero {
		t.Errorf("%s: error %v (other results zero: %v), want %v", what, got, zero, want)
	}
}

func wantNumber(t *testing.T, what string, got int, e api.Errno, want int) {
	t.Helper()
	if got != want || e != api.OK {
		t.Errorf("%s: %v %v, want %v", what, got, e, want)
	}
}

func wantList(t *testing.T, what string, got []int, e api.Errno, want ...int) {
	t.Helper()
	if !slices.Equal(got, want) || e != api.OK {
		t.Errorf("%s: %v %v, want %v", what, got, e, want)
	}
}

// wantWord asks for a word, and for none if ok is false.
func wantWord(t *testing.T, what string, got []int, is bool, e api.Errno, want []int, ok bool) {
	t.Helper()
	if !slices.Equal(got, want) || is != ok || e != api.OK {
		t.Errorf("%s: %v %v %v, want %v %v", what, got, is, e, want, ok)
	}
}

func wantBool(t *testing.T, what string, got bool, e api.Errno, want bool) {
	t.Helper()
	if got != want || e != api.OK {
		t.Errorf("%s: %v %v, want %v", what, got, e, want)
	}
}

func wantBox(t *testing.T, what string, got api.Box, e api.Errno, want api.Box) {
	t.Helper()
	if !equal(got, want) || e != api.OK {
		t.Errorf("%s: %v %v, want %v", what, got, e, want)
	}
}

func equal(a, b api.Box) bool {
	return slices.Equal(a.Next, b.Next) && slices.Equal(a.Out, b.Out)
}

func isNone(b api.Box) bool {
	return len(b.Next) == 0 && len(b.Out) == 0
}

// callAll calls all functions that take a box, and asks for an error of each one.
func callAll(t *testing.T, b api.Box, want api.Errno) {
	t.Helper()
	good := boxOf([]int{0, 1}, 1, 0, 1, 0)
	for _, l := range [][]int{nil, {0}, {0, 1}, {1, 0}, {0, 1, 2, 3}, {0, 1, 2, 3, 4, 5}, {-1}, make([]int, 41), numbersFrom(0, len(b.Out))} {
		answer, e := Run(b, l)
		wantRefused(t, "Run", len(answer) == 0, e, want)
		number, e := State(b, l)
		wantRefused(t, "State", number == 0, e, want)
		c, e := Rename(b, l)
		wantRefused(t, "Rename", isNone(c), e, want)
		c, e = Signals(b, l)
		wantRefused(t, "Signals", isNone(c), e, want)
	}
	for _, n := range []int{0, 1, -1, 21, math.MinInt, math.MaxInt} {
		word, ok, e := To(b, n)
		wantRefused(t, "To", len(word) == 0 && !ok, e, want)
		word, ok, e = TellStates(b, n, 0)
		wantRefused(t, "TellStates", len(word) == 0 && !ok, e, want)
		word, ok, e = TellStates(b, 0, n)
		wantRefused(t, "TellStates", len(word) == 0 && !ok, e, want)
		c, e := From(b, n)
		wantRefused(t, "From", isNone(c), e, want)
		count, e := Count(b, n, 0)
		wantRefused(t, "Count", count == 0, e, want)
		count, e = Count(b, 0, n)
		wantRefused(t, "Count", count == 0, e, want)
	}
	for _, f := range []func(api.Box) ([]int, api.Errno){Reached, Kinds} {
		l, e := f(b)
		wantRefused(t, "Reached, Kinds", len(l) == 0, e, want)
	}
	for _, f := range []func(api.Box) (api.Box, api.Errno){Smallest, Late, Turn} {
		c, e := f(b)
		wantRefused(t, "Smallest, Late, Turn", isNone(c), e, want)
	}
	word, ok, e := Sync(b)
	wantRefused(t, "Sync", len(word) == 0 && !ok, e, want)
	for _, both := range [][2]api.Box{{b, good}, {good, b}, {b, b}} {
		is, e := Same(both[0], both[1])
		wantRefused(t, "Same", !is, e, want)
		word, ok, e := Tell(both[0], both[1])
		wantRefused(t, "Tell", len(word) == 0 && !ok, e, want)
	}
}

func TestP81Validate(t *testing.T) {
	for _, b := range someBoxes(1) {
		if e := Validate(b); e != api.OK {
			t.Fatalf("Validate %v: %v", b, e)
		}
	}
	// All boxes of these numbers, by the definition.
	for count := 1; count <= 2; count++ {
		for _, next := range lists(2*count, -1, 0, 1, 2) {
			for _, out := range lists(count, -1, 0, 3, 4) {
				want := api.OK
				if slices.Min(next) < 0 || slices.Max(next) >= count || slices.Min(out) < 0 || slices.Max(out) > 3 {
					want = api.ErrArg
				}
				if e := Validate(boxOf(out, next...)); e != want {
					t.Errorf("Validate %v %v: %v, want %v", next, out, e, want)
				}
			}
		}
	}
	for states := range 9 {
		for signals := range 9 {
			want := api.ErrArg
			if states == signals && states >= 1 && states <= 6 {
				want = api.OK
			}
			if e := Validate(boxOf(make([]int, signals), make([]int, 2*states)...)); e != want {
				t.Errorf("Validate with %v states and %v signals: %v, want %v", states, signals, e, want)
			}
		}
	}
}

func TestP81Errors(t *testing.T) {
	for _, b := range invalid() {
		if e := Validate(b); e != api.ErrArg {
			t.Errorf("Validate: %v", e)
		}
		callAll(t, b, api.ErrArg)
		if t.Failed() {
			t.Fatalf("with %v", b)
		}
	}
}

func TestP81Words(t *testing.T) {
	long := func(input, at int) []int {
		out := make([]int, 41)
		out[at] = input
		return out
	}
	for _, b := range someBoxes(200) {
		for _, x := range []struct {
			word []int
			want api.Errno
		}{
			{make([]int, 41), api.ErrLarge}, {make([]int, 1000), api.ErrLarge}, {long(2, 0), api.ErrLarge}, {long(-1, 40), api.ErrLarge}, {slices.Repeat([]int{2}, 41), api.ErrLarge},
			{[]int{2}, api.ErrArg}, {[]int{-1}, api.ErrArg}, {[]int{0, 1, 2}, api.ErrArg}, {[]int{3, 1, 0}, api.ErrArg}, {[]int{0, math.MinInt, 0}, api.ErrArg}, {[]int{math.MaxInt}, api.ErrArg}, {long(2, 0)[:40], api.ErrArg}, {long(-1, 39)[:40], api.ErrArg}, {[]int{1 << 32}, api.ErrArg},
		} {
			answer, e := Run(b, x.word)
			wantRefused(t, "Run", len(answer) == 0, e, x.want)
			number, e := State(b, x.word)
			wantRefused(t, "State", number == 0, e, x.want)
		}
	}
}

func TestP81States(t *testing.T) {
	for _, b := range someBoxes(200) {
		for _, n := range []int{-1, len(b.Out), len(b.Out) + 1, 100, math.MinInt, math.MaxInt, 1 << 32} {
			word, ok, e := To(b, n)
			wantRefused(t, "To", len(word) == 0 && !ok, e, api.ErrNone)
			c, e := From(b, n)
			wantRefused(t, "From", isNone(c), e, api.ErrNone)
			for _, both := range [][2]int{{n, 0}, {0, n}, {n, n}, {n, len(b.Out) - 1}} {
				word, ok, e := TellStates(b, both[0], both[1])
				wantRefused(t, "TellStates", len(word) == 0 && !ok, e, api.ErrNone)
			}
		}
	}
}

func TestP81Run(t *testing.T) {
	words := append(wordsTo(5), longWords()...)
	for _, b := range someBoxes(13) {
		for _, word := range words {
			answer, e := Run(b, word)
			wantList(t, "Run", answer, e, plainAnswer(b, word)...)
			number, e := State(b, word)
			wantNumber(t, "State", number, e, plainState(b, 0, word))
			if t.Failed() {
				t.Fatalf("with %v and %v", b, word)
			}
		}
	}
}

func TestP81Examples(t *testing.T) {
	b := boxOf([]int{0, 1}, 1, 0, 1, 0)
	answer, e := Run(b, []int{0, 1, 0})
	wantList(t, "Run", answer, e, 0, 1, 0, 1)
	number, e := State(b, []int{0, 1, 0})
	wantNumber(t, "State", number, e, 1)
	answer, e = Run(ring(3), nil)
	wantList(t, "Run", answer, e, 3)
	number, e = State(ring(3, 2), nil)
	wantNumber(t, "State", number, e, 0)
	answer, e = Run(ring(3, 2, 1, 0), []int{0, 0, 1, 0, 1})
	wantList(t, "Run", answer, e, 3, 2, 1, 0, 3, 2)
	answer, e = Run(counter(6), []int{1, 1, 1, 1, 1, 1, 0, 1})
	wantList(t, "Run", answer, e, 0, 0, 0, 0, 0, 3, 3, 0, 0)
	number, e = State(counter(6), []int{1, 1, 1})
	wantNumber(t, "State", number, e, 3)
}

// TestMemory sees to it that no function changes its arguments, or gives out a part of them (R5).
func TestMemory(t *testing.T) {
	box := boxOf([]int{0, 1, 1, 3, 3}, 1, 2, 0, 1, 1, 1, 4, 4, 4, 4)
	b := api.Box{Next: box.Next[:3], Out: box.Out[:3]}
	list := []int{0, 1, 2, 3, 9}
	var results [][]int
	var boxes []api.Box
	keep := func(l []int, _ api.Errno) { results = append(results, l) }
	keepIf := func(l []int, _ bool, _ api.Errno) { results = append(results, l) }
	keepBox := func(c api.Box, _ api.Errno) {
		boxes = append(boxes, c)
		results = append(results, c.Out)
	}
	for range 2 {
		Validate(b)
		State(b, list[:2])
		Same(b, b)
		Count(b, 3, 1)
		keep(Run(b, list[:2]))
		keep(Run(b, nil))
		keep(Reached(b))
		keep(Kinds(b))
		keepBox(Smallest(b))
		keepIf(Tell(b, ring(0)))
		keepIf(Tell(b, ring(0, 1)))
		keepIf(TellStates(b, 1, 2))
		keepIf(TellStates(b, 0, 1))
		keepIf(To(b, 0))
		keepIf(To(b, 2))
		keepIf(Sync(b))
		keepBox(Rename(b, list[:3]))
		keepBox(From(b, 0))
		keepBox(From(b, 1))
		keepBox(Late(b))
		keepBox(Turn(b))
		keepBox(Signals(b, list[:4]))
	}
	wantOwnMemory(t, results)
	wantOwnBoxes(t, boxes)
	if !slices.Equal(list, []int{0, 1, 2, 3, 9}) || !equal(box, boxOf([]int{0, 1, 1, 3, 3}, 1, 2, 0, 1, 1, 1, 4, 4, 4, 4)) {
		t.Errorf("the arguments are %v %v afterwards", list, box)
	}
}

// wantOwnMemory asks whether results are as they were, and equal to those of equal calls, while all before them are written over.
func wantOwnMemory(t *testing.T, results [][]int) {
	t.Helper()
	want := slices.Clone(results)
	for i := range want {
		want[i] = slices.Clone(results[i])
	}
	for i, r := range results {
		if !slices.Equal(r, want[i]) || !slices.Equal(r, want[(i+len(want)/2)%len(want)]) {
			t.Errorf("result %d shares memory with one before it, or is another one than by an equal call: %v", i, r)
		}
		r = r[:cap(r)]
		for k := range r {
			r[k] = 99
		}
	}
}

// wantOwnBoxes asks the same of the next states of boxes.
func wantOwnBoxes(t *testing.T, boxes []api.Box) {
	t.Helper()
	want := slices.Clone(boxes)
	for i := range want {
		want[i].Next = slices.Clone(boxes[i].Next)
	}
	for i, b := range boxes {
		if !slices.Equal(b.Next, want[i].Next) || !slices.Equal(b.Next, want[(i+len(want)/2)%len(want)].Next) {
			t.Errorf("box %d shares memory with one before it, or is another one than by an equal call: %v", i, b)
		}
		next := b.Next[:cap(b.Next)]
		for k := range next {
			next[k] = [2]int{99, 99}
		}
	}
}
