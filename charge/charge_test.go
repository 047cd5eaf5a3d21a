package charge

import (
	"math"
	"slices"
	"testing"

	"diaphone/api"
)

// setsOf returns all sets of so many numbers from 1 to the greatest one.
func setsOf(count, greatest int) [][]int {
	if count == 0 {
		return [][]int{nil}
	}
	var out [][]int
	for last := count; last <= greatest; last++ {
		for _, begin := range setsOf(count-1, last-1) {
			out = append(out, append(slices.Clone(begin), last))
		}
	}
	return out
}

// weightsOf returns all weights up to the greatest one.
func weightsOf(greatest int) [][]int {
	var out [][]int
	for count := 1; count <= 4; count++ {
		out = append(out, setsOf(count, greatest)...)
	}
	return out
}

// someWeights returns all small weights, and every so many of all.
func someWeights(each int) [][]int {
	out := weightsOf(7)
	for i, w := range weightsOf(30) {
		if i%each == 0 {
			out = append(out, w)
		}
	}
	return append(out, edgeWeights()...)
}

// edgeWeights returns the smallest and the greatest weights, and some with a measure above 1.
func edgeWeights() [][]int {
	return [][]int{{1}, {30}, {29}, {1, 30}, {29, 30}, {28, 29}, {1, 2, 3, 4}, {27, 28, 29, 30}, {6, 10, 15}, {12, 18, 30}, {10, 20, 30}, {15, 30}, {28, 30}, {4, 6}}
}

// plainMade tells of each amount up to some one whether it is made up: for each number of cartridges of the last weight, the others make up the rest.
func plainMade(w []int, upTo int) []bool {
	made := make([]bool, upTo+1)
	if len(w) == 0 {
		made[0] = true
		return made
	}
	weight := w[len(w)-1]
	for rest, ok := range plainMade(w[:len(w)-1], upTo) {
		for amount := rest; ok && amount <= upTo; amount += weight {
			made[amount] = true
		}
	}
	return made
}

// visitCounts visits all counts with an amount of at most so many.
func visitCounts(w []int, upTo int, visit func(counts []int, amount int)) {
	counts := make([]int, len(w))
	var extend func(at, amount int)
	extend = func(at, amount int) {
		if at == len(w) {
			visit(counts, amount)
			return
		}
		for count := 0; amount+count*w[at] <= upTo; count++ {
			counts[at] = count
			extend(at+1, amount+count*w[at])
		}
	}
	extend(0, 0)
}

func sumOf(list []int) int {
	sum := 0
	for _, n := range list {
		sum += n
	}
	return sum
}

// refused are weights that are not as they should be, and the error.
type refused struct {
	w    []int
	want api.Errno
}

func invalid() []refused {
	out := []refused{
		{nil, api.ErrLarge}, {[]int{}, api.ErrLarge}, {[]int{1, 2, 3, 4, 5}, api.ErrLarge}, {make([]int, 100), api.ErrLarge},
		// Also if no weight is right.
		{[]int{0, 0, -1, 99, 31}, api.ErrLarge}, {[]int{5, 4, 3, 2, 1}, api.ErrLarge},
		{[]int{5, 3}, api.ErrArg}, {[]int{3, 3}, api.ErrArg}, {[]int{1, 2, 2}, api.ErrArg}, {[]int{1, 3, 2}, api.ErrArg}, {[]int{2, 1, 3}, api.ErrArg}, {[]int{1, 2, 4, 3}, api.ErrArg}, {[]int{30, 30}, api.ErrArg},
	}
	for _, weight := range []int{0, -1, 31, 32, math.MinInt, math.MaxInt} {
		out = append(out, refused{[]int{weight}, api.ErrArg}, refused{[]int{weight, 3}, api.ErrArg}, refused{[]int{3, weight}, api.ErrArg}, refused{[]int{1, 2, 3, weight}, api.ErrArg})
	}
	return out
}

// invalidAmounts returns numbers that no amount may be.
func invalidAmounts() []int {
	return []int{-1, 2001, -2000, 1 << 40, math.MinInt, math.MaxInt}
}

func wantRefused(t *testing.T, what string, zero bool, got, want api.Errno) {
	t.Helper()
	if got != want || !zero {
		t.Errorf("%s: error %v (other results zero: %v), want %v", what, got, zero, want)
	}
}

func wantNumber(t *testing.T, what string, got int, e api.Errno, want int) {
	t.Helper()
	if got != want || e != api.OK {
		t.Errorf("%s: %v %v, want %v", what, got, e, want)
	}
}

func wantList(t *testing.T, what string, got []int, e api.Errno, want ...int) {
	t.Helper()
	if !slices.Equal(got, want) || e != api.OK {
		t.Errorf("%s: %v %v, want %v", what, got, e, want)
	}
}

func wantBool(t *testing.T, what string, got bool, e api.Errno, want bool) {
	t.Helper()
	if got != want || e != api.OK {
		t.Errorf("%s: %v %v, want %v", what, got, e, want)
	}
}

// callAll calls all functions that take weights, and asks for an error of each one.
func callAll(t *testing.T, w []int, want api.Errno) {
	t.Helper()
	good := []int{3, 5}
	for _, n := range []int{8, -1, 201, 2001, math.MinInt} {
		is, e := Can(w, n)
		wantRefused(t, "Can", !is, e, want)
		count, ok, e := Fewest(w, n)
		wantRefused(t, "Fewest", count == 0 && !ok, e, want)
		l, ok, e := Fire(w, n)
		wantRefused(t, "Fire", len(l) == 0 && !ok, e, want)
		count, e = Ways(w, n)
		wantRefused(t, "Ways", count == 0, e, want)
		l, ok, e = Greedy(w, n)
		wantRefused(t, "Greedy", len(l) == 0 && !ok, e, want)
		l, e = Times(w, n)
		wantRefused(t, "Times", len(l) == 0, e, want)
		l, e = With(w, n)
		wantRefused(t, "With", len(l) == 0, e, want)
	}
	for _, weight := range w {
		l, e := With(w, weight)
		wantRefused(t, "With", len(l) == 0, e, want)
	}
	for _, counts := range [][]int{make([]int, len(w)), {1, 2}, nil, {-1}} {
		n, e := CheckCounts(w, counts)
		wantRefused(t, "CheckCounts", n == 0, e, want)
	}
	for _, f := range []func([]int) (int, api.Errno){Measure, Greatest} {
		n, e := f(w)
		wantRefused(t, "Measure, Greatest", n == 0, e, want)
	}
	for _, f := range []func([]int) ([]int, api.Errno){Gaps, Residues, Needless, Reduce} {
		l, e := f(w)
		wantRefused(t, "Gaps, Residues, Needless, Reduce", len(l) == 0, e, want)
	}
	is, e := IsEven(w)
	wantRefused(t, "IsEven", !is, e, want)
	for _, both := range [][2][]int{{w, good}, {good, w}, {w, w}} {
		is, e = Same(both[0], both[1])
		wantRefused(t, "Same", !is, e, want)
	}
}

func TestP71Validate(t *testing.T) {
	for _, w := range weightsOf(30) {
		if e := Validate(w); e != api.OK {
			t.Fatalf("Validate %v: %v", w, e)
		}
	}
	// All lists of these numbers, by the definition.
	numbers := []int{-1, 0, 1, 2, 30, 31}
	for lists, count := [][]int{nil}, 0; count <= 5; count++ {
		var longer [][]int
		for _, l := range lists {
			want := api.OK
			if count < 1 || count > 4 {
				want = api.ErrLarge
			} else if len(slices.Compact(slices.Clone(l))) < count || !slices.IsSorted(l) || l[0] < 1 || l[count-1] > 30 {
				want = api.ErrArg
			}
			if e := Validate(l); e != want {
				t.Errorf("Validate %v: %v, want %v", l, e, want)
			}
			for _, n := range numbers {
				longer = append(longer, append(slices.Clone(l), n))
			}
		}
		lists = longer
	}
}

func TestP71Errors(t *testing.T) {
	for _, x := range invalid() {
		if e := Validate(x.w); e != x.want {
			t.Errorf("Validate %v: %v, want %v", x.w, e, x.want)
		}
		callAll(t, x.w, x.want)
		if t.Failed() {
			t.Fatalf("with %v", x.w)
		}
	}
	// All errors of the first weights come before those of the second ones.
	for _, x := range invalid() {
		for _, y := range invalid() {
			is, e := Same(x.w, y.w)
			wantRefused(t, "Same", !is, e, x.want)
		}
	}
}

func TestP71Amounts(t *testing.T) {
	for _, w := range append(edgeWeights(), []int{3, 5}) {
		for _, n := range invalidAmounts() {
			is, e := Can(w, n)
			wantRefused(t, "Can", !is, e, api.ErrArg)
			count, ok, e := Fewest(w, n)
			wantRefused(t, "Fewest", count == 0 && !ok, e, api.ErrArg)
			l, ok, e := Fire(w, n)
			wantRefused(t, "Fire", len(l) == 0 && !ok, e, api.ErrArg)
			count, e = Ways(w, n)
			wantRefused(t, "Ways", count == 0, e, api.ErrArg)
			l, ok, e = Greedy(w, n)
			wantRefused(t, "Greedy", len(l) == 0 && !ok, e, api.ErrArg)
		}
	}
}

func TestP71Measure(t *testing.T) {
	for _, w := range weightsOf(30) {
		want := 0
		for by := range 31 {
			if by > 0 && !slices.ContainsFunc(w, func(weight int) bool { return weight%by != 0 }) {
				want = by
			}
		}
		n, e := Measure(w)
		wantNumber(t, "Measure", n, e, want)
	}
}

func TestP71CheckCounts(t *testing.T) {
	for _, w := range someWeights(500) {
		visitCounts(w, 40, func(counts []int, amount int) {
			n, e := CheckCounts(w, counts)
			wantNumber(t, "CheckCounts", n, e, amount)
		})
	}
	for _, x := range []struct {
		w, counts []int
		want      int
	}{
		{[]int{3, 5}, []int{2, 1}, 11}, {[]int{3, 5}, []int{0, 0}, 0}, {[]int{1}, []int{2000}, 2000},
		// An amount of counts may be above MaxAmount.
		{[]int{30}, []int{2000}, 60000}, {[]int{27, 28, 29, 30}, []int{2000, 2000, 2000, 2000}, 228000}, {[]int{1, 2, 3, 4}, []int{2000, 0, 0, 1}, 2004},
	} {
		n, e := CheckCounts(x.w, x.counts)
		wantNumber(t, "CheckCounts", n, e, x.want)
	}
	for _, counts := range [][]int{nil, {}, {1}, {1, 1, 1}, make([]int, 3), make([]int, 100), {-1, 0}, {0, -1}, {2001, 0}, {0, 2001}, {math.MinInt, 0}, {0, math.MaxInt}, {math.MaxInt, math.MinInt}, {0, 0, -1}, {-1}} {
		n, e := CheckCounts([]int{3, 5}, counts)
		wantRefused(t, "CheckCounts", n == 0, e, api.ErrArg)
	}
}

// TestMemory sees to it that no function changes its arguments, or gives out a part of them (R5).
func TestMemory(t *testing.T) {
	list, counts := []int{3, 5, 8, 9, 9}, []int{1, 2, 0, 7, 7}
	v, w, c := list[:3], list[:2], counts[:2]
	var results [][]int
	keep := func(l []int, _ api.Errno) { results = append(results, l) }
	keepIf := func(l []int, _ bool, _ api.Errno) { results = append(results, l) }
	for range 2 {
		Validate(w)
		Measure(w)
		CheckCounts(w, c)
		Can(w, 8)
		Fewest(w, 8)
		Ways(w, 8)
		Greatest(w)
		IsEven(w)
		Same(v, w)
		Same(w, v)
		keepIf(Fire(w, 8))
		keepIf(Greedy(w, 8))
		keep(Gaps(w))
		keep(Residues(w))
		keep(Needless(v))
		keep(Reduce(w))
		keep(Reduce(v))
		keep(Times(w, 1))
		keep(With(w, 9))
		keep(With(w, 1))
		keep(With(w, 4))
	}
	want := slices.Clone(results)
	for i := range want {
		want[i] = slices.Clone(results[i])
	}
	for i, r := range results {
		if !slices.Equal(r, want[i]) || !slices.Equal(r, want[(i+len(want)/2)%len(want)]) {
			t.Errorf("result %d shares memory with one before it, or is another one than by an equal call: %v", i, r)
		}
		r = r[:cap(r)]
		for k := range r {
			r[k] = 99
		}
	}
	if !slices.Equal(list, []int{3, 5, 8, 9, 9}) || !slices.Equal(counts, []int{1, 2, 0, 7, 7}) {
		t.Errorf("the arguments are %v %v afterwards", list, counts)
	}
}
