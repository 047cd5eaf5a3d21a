package log

import (
	"slices"
	"testing"

	"diaphone/api"
)

// plainNearest goes through the list from its end on.
func plainNearest(list [][]int, l []int, c api.Costs) int {
	nearest := len(list) - 1
	for i, other := range slices.Backward(list) {
		if plainDistance(other, l, c) <= plainDistance(list[nearest], l, c) {
			nearest = i
		}
	}
	return nearest
}

func TestP64Nearest(t *testing.T) {
	logs := logsOf(3, 2)
	costs := costsOf(1, 2, 4)
	for i, l := range logs {
		for k := range logs {
			for j := range logs {
				list := [][]int{logs[k], logs[j], logs[(k*5+j)%len(logs)]}
				c := costs[(i+k*3+j*7)%len(costs)]
				n, e := Nearest(list, l, c)
				wantNumber(t, "Nearest", n, e, plainNearest(list, l, c))
			}
		}
	}
	for i := range 40 {
		var list [][]int
		some := someTrials(46)[i:]
		for _, x := range some[:1+i%api.MaxLogs] {
			list = append(list, x.m[:min(len(x.m), 7)])
		}
		l, c := some[0].l[:min(len(some[0].l), 6)], some[0].c
		n, e := Nearest(list, l, c)
		wantNumber(t, "Nearest", n, e, plainNearest(list, l, c))
	}
	// The list comes first: from it to l signs are left out.
	n, e := Nearest([][]int{{1, 2}, nil}, []int{1}, api.Costs{Out: 5, In: 1, Change: 1})
	wantNumber(t, "Nearest", n, e, 1)
	n, e = Nearest([][]int{{1, 2}, nil}, []int{1}, api.Costs{Out: 1, In: 5, Change: 1})
	wantNumber(t, "Nearest", n, e, 0)
	n, e = Nearest([][]int{{3}, {2}, {3}, {1}, {2}, {1}}, []int{1}, api.Costs{Out: 5, In: 1, Change: 1})
	wantNumber(t, "Nearest", n, e, 3)
	n, e = Nearest(make([][]int, 6), []int{1}, api.Costs{Out: 5, In: 1, Change: 1})
	wantNumber(t, "Nearest of equal ones", n, e, 0)
}

func TestP64NearestErrors(t *testing.T) {
	fine, none := api.Costs{Out: 1, In: 1, Change: 1}, api.Costs{}
	long, strange := make([]int, 11), []int{6}
	for i, x := range []struct {
		list [][]int
		l    []int
		c    api.Costs
		want api.Errno
	}{
		{nil, []int{1}, fine, api.ErrLarge},
		{[][]int{}, strange, none, api.ErrLarge},
		{make([][]int, 7), []int{1}, fine, api.ErrLarge},
		{[][]int{strange, strange, strange, strange, strange, strange, strange}, strange, none, api.ErrLarge},
		// One by one: the first log with an error decides.
		{[][]int{strange, long}, nil, fine, api.ErrArg},
		{[][]int{long, strange}, nil, fine, api.ErrLarge},
		{[][]int{nil, nil, nil, nil, nil, strange}, long, none, api.ErrArg},
		{[][]int{nil, long}, strange, none, api.ErrLarge},
		{[][]int{nil}, long, none, api.ErrLarge},
		{[][]int{nil}, strange, fine, api.ErrArg},
		{[][]int{nil}, nil, none, api.ErrArg},
	} {
		n, e := Nearest(x.list, x.l, x.c)
		if n != 0 || e != x.want {
			t.Errorf("Nearest %d: %v %v, want %v", i, n, e, x.want)
		}
	}
	for _, x := range invalid() {
		n, e := Nearest([][]int{{1}, x.l}, []int{1}, fine)
		wantRefused(t, "Nearest", n == 0, e, x.want)
		n, e = Nearest([][]int{{1}, {1}}, x.l, none)
		wantRefused(t, "Nearest", n == 0, e, x.want)
	}
	for _, c := range invalidCosts() {
		n, e := Nearest([][]int{{2}, {1}}, []int{1}, c)
		wantRefused(t, "Nearest", n == 0, e, api.ErrArg)
	}
}

// plainWindow goes through the windows from the last one on.
func plainWindow(x trial) (int, int) {
	first, behind := len(x.m), len(x.m)
	smallest := plainDistance(x.l, nil, x.c)
	for from := len(x.m); from >= 0; from-- {
		for to := len(x.m); to >= from; to-- {
			if n := plainDistance(x.l, x.m[from:to], x.c); n <= smallest {
				first, behind, smallest = from, to, n
			}
		}
	}
	return first, behind
}

func TestP64Window(t *testing.T) {
	check := func(x trial) {
		from, to, e := Window(x.l, x.m, x.c)
		if a, b := plainWindow(x); from != a || to != b || e != api.OK {
			t.Fatalf("Window %v: %v %v %v, want %v %v", x, from, to, e, a, b)
		}
	}
	for _, x := range smallTrials() {
		check(x)
	}
	for _, x := range append(someTrials(300), edgeTrials()...) {
		// The plain way goes through all comparisons of all windows; few signs in one log are enough to find any window of the other one.
		x.l = x.l[:min(len(x.l), 3)]
		check(x)
	}
	for _, x := range []struct {
		l, m     []int
		c        api.Costs
		from, to int
	}{
		{[]int{2, 3}, []int{1, 2, 3, 4}, api.Costs{Out: 1, In: 1, Change: 1}, 1, 3},
		{[]int{2}, []int{1, 2, 1, 2}, api.Costs{Out: 9, In: 9, Change: 9}, 1, 2},
		{[]int{1, 2, 3}, []int{0, 1, 2, 0, 3, 0}, api.Costs{Out: 9, In: 1, Change: 9}, 1, 5},
		{[]int{1, 2, 3}, []int{0, 1, 2, 0, 3, 0}, api.Costs{Out: 1, In: 9, Change: 9}, 1, 3},
		{[]int{5, 5, 5, 5, 5, 5, 5, 5, 5, 5}, []int{0, 0, 0, 0, 0, 0, 0, 0, 0, 5}, api.Costs{Out: 1, In: 1, Change: 9}, 9, 10},
		{[]int{4}, []int{0, 1, 2, 3}, api.Costs{Out: 9, In: 1, Change: 1}, 0, 1},
		{[]int{4}, []int{0, 1, 2, 3}, api.Costs{Out: 1, In: 1, Change: 1}, 0, 0},
		{[]int{4}, nil, api.Costs{Out: 9, In: 1, Change: 1}, 0, 0},
	} {
		from, to, e := Window(x.l, x.m, x.c)
		if from != x.from || to != x.to || e != api.OK {
			t.Errorf("Window %v %v: %v %v %v", x.l, x.m, from, to, e)
		}
	}
}

// TestP64WindowIsNear sees to it that a window is no farther than the whole log.
func TestP64WindowIsNear(t *testing.T) {
	for _, x := range someTrials(500) {
		from, to, e := Window(x.l, x.m, x.c)
		if e != api.OK || from < 0 || from > to || to > len(x.m) {
			t.Fatalf("Window %v: %v %v %v", x, from, to, e)
		}
		part, _ := Distance(x.l, x.m[from:to], x.c)
		whole, _ := Distance(x.l, x.m, x.c)
		if part > whole {
			t.Errorf("Window %v: %v, but the whole log has %v", x, part, whole)
		}
	}
}
