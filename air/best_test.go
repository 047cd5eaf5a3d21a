package air

import (
	"math"
	"slices"
	"testing"

	"diaphone/api"
)

// plainFirsts goes from hour to hour with the cheapest way to have each stock, whether tidy or not.
func plainFirsts(x api.Task) []int {
	total := 0
	for _, n := range x.Need {
		total += n
	}
	const never = math.MaxInt / 2
	costs := slices.Repeat([]int{never}, total+1)
	costs[0] = 0
	out := []int{0}
	for hour, need := range x.Need {
		next := slices.Repeat([]int{never}, total+1)
		for stock, c := range costs {
			for left := max(0, stock-need); left <= total && c < never; left++ {
				units := left + need - stock
				more := c + x.Cost[hour]*units + x.Keep*left
				if units > 0 {
					more += x.Start
				}
				next[left] = min(next[left], more)
			}
		}
		costs = next
		out = append(out, costs[0])
	}
	return out
}

// wantBest holds Firsts, Least and Best against the smallest costs, and all of what a best plan must be against its definition.
func wantBest(t *testing.T, x api.Task) {
	t.Helper()
	want := plainFirsts(x)
	least := want[len(x.Need)]
	l, e := Firsts(x)
	wantList(t, "Firsts", l, e, want...)
	n, e := Least(x)
	wantNumber(t, "Least", n, e, least)
	plan, e := Best(x)
	if e != api.OK || len(plan) != len(x.Need) || slices.Min(plan) < 0 || !plainRight(x, plan) {
		t.Fatalf("Best %v: %v %v", x, plan, e)
	}
	if n := plainCost(x, plan); n != least {
		t.Errorf("Best %v: %v costs %v, want %v", x, plan, n, least)
	}
	stock := 0
	for hour, units := range plan {
		if units > 0 && stock > 0 {
			t.Errorf("Best %v: %v is not tidy", x, plan)
		}
		stock += units - x.Need[hour]
	}
}

func TestP32Best(t *testing.T) {
	for _, x := range append(smallTasks(), largeTasks(80)...) {
		wantBest(t, x)
	}
	wantBest(t, greatest())
	wantBest(t, longest(0, 0, 0, 0))
	wantBest(t, longest(api.MaxStart, 0, 0, api.MaxNeed))
	wantBest(t, longest(0, api.MaxKeep, api.MaxKeep, api.MaxNeed))
}

// TestP32LeastOfAllPlans holds Least against every right plan.
func TestP32LeastOfAllPlans(t *testing.T) {
	for _, x := range smallTasks() {
		want := math.MaxInt
		for _, plan := range plainPlans(x) {
			want = min(want, plainCost(x, plan))
		}
		n, e := Least(x)
		wantNumber(t, "Least", n, e, want)
	}
}

func TestP32Examples(t *testing.T) {
	n, e := Least(two())
	wantNumber(t, "example 1", n, e, 15)
	l, e := Best(two())
	wantList(t, "example 1", l, e, 10, 0)
	l, e = Firsts(two())
	wantList(t, "example 2", l, e, 0, 10, 15)
	none := longest(999, 20, 20, 0)
	n, e = Least(none)
	wantNumber(t, "example 3", n, e, 0)
	l, e = Best(none)
	wantList(t, "example 3", l, e, make([]int, 12)...)
	l, e = Firsts(none)
	wantList(t, "example 3", l, e, make([]int, 13)...)
	// An hour without need is a cheap one to pump in for the one behind it.
	l, e = Best(task(10, 1, 20, 0, 0, 0, 20, 5))
	wantList(t, "Best in an hour without need", l, e, 0, 5, 0)
	// What is cheap at first is kept over dear hours, in which nothing is started.
	l, e = Best(task(10, 1, 0, 5, 20, 5, 20, 5))
	wantList(t, "Best before dear hours", l, e, 15, 0, 0)
	l, e = Best(task(1, 20, 0, 5, 0, 0, 0, 5))
	wantList(t, "Best with dear keeping", l, e, 5, 0, 5)
}

func TestP32FirstsOfBegin(t *testing.T) {
	for _, x := range append(smallTasks(), largeTasks(40)...) {
		l, _ := Firsts(x)
		if !slices.IsSorted(l) {
			t.Errorf("Firsts %v: %v falls", x, l)
		}
		for hours := 1; hours <= len(x.Need); hours++ {
			b, _ := Begin(x, hours)
			n, e := Least(b)
			wantNumber(t, "Least of the first hours", n, e, l[hours])
		}
	}
}

// setsOf returns all sets of hours.
func setsOf(hours int) [][]int {
	out := [][]int{nil}
	for hour := range hours {
		for _, s := range out {
			out = append(out, append(slices.Clone(s), hour))
		}
	}
	return out
}

// plainAt says where each hour's need is pumped by the cost of a unit, and of equal ones by the hour.
func plainAt(x api.Task, starts []int) ([]int, bool) {
	plan := make([]int, len(x.Need))
	for hour, need := range x.Need {
		var from [][]int
		for _, s := range starts {
			if s <= hour {
				from = append(from, []int{x.Cost[s] + x.Keep*(hour-s), s})
			}
		}
		if need > 0 && len(from) == 0 {
			return nil, false
		}
		if need > 0 {
			plan[slices.MinFunc(from, slices.Compare[[]int])[1]] += need
		}
	}
	return plan, true
}

// wantAt holds At and Count against all sets of hours; the smallest cost of At is Least (S3).
func wantAt(t *testing.T, x api.Task) {
	t.Helper()
	least, count := math.MaxInt, 0
	for _, s := range setsOf(len(x.Need)) {
		want, wantOk := plainAt(x, s)
		l, ok, e := At(x, s)
		if !slices.Equal(l, want) || ok != wantOk || e != api.OK {
			t.Fatalf("At %v %v: %v %v %v, want %v %v", x, s, l, ok, e, want, wantOk)
		}
		if !ok {
			continue
		}
		n := plainCost(x, want)
		if n < least {
			least, count = n, 0
		}
		if n == least && !slices.ContainsFunc(s, func(hour int) bool { return want[hour] == 0 }) {
			count++
		}
	}
	n, e := Least(x)
	wantNumber(t, "Least", n, e, least)
	n, e = Count(x)
	wantNumber(t, "Count", n, e, count)
}

func TestP33At(t *testing.T) {
	for _, x := range append(smallTasks(), largeTasks(12)...) {
		wantAt(t, x)
	}
}

func TestP33AtExamples(t *testing.T) {
	none, some := longest(5, 1, 1, 0), task(10, 1, 3, 0, 3, 5, 2, 5, 0, 0, 0, 5)
	for _, x := range []struct {
		t      api.Task
		starts []int
		plan   []int
		ok     bool
		want   api.Errno
	}{
		{two(), []int{0}, []int{10, 0}, true, api.OK},
		{two(), []int{0, 1}, []int{5, 5}, true, api.OK},
		{two(), []int{1}, nil, false, api.OK},
		{two(), nil, nil, false, api.OK},
		{two(), []int{}, nil, false, api.OK},
		// Without a need no start is missed, and none is used.
		{none, nil, make([]int, 12), true, api.OK},
		{none, []int{4, 11}, make([]int, 12), true, api.OK},
		{some, []int{1}, []int{0, 15, 0, 0, 0}, true, api.OK},
		{some, []int{2, 3, 4}, nil, false, api.OK},
		{some, []int{0, 1, 2, 3, 4}, []int{0, 5, 5, 0, 5}, true, api.OK},
		{some, []int{0, 3}, []int{10, 0, 0, 5, 0}, true, api.OK},
		// Of equally short ways, the first one.
		{task(0, 1, 0, 0, 1, 0, 2, 4), []int{0, 1, 2}, []int{4, 0, 0}, true, api.OK},
		{task(0, 1, 1, 0, 1, 0, 2, 4), []int{0, 1, 2}, []int{0, 4, 0}, true, api.OK},
		{task(0, 0, 5, 4, 5, 4, 5, 4), []int{0, 1, 2}, []int{12, 0, 0}, true, api.OK},
		{two(), []int{2}, nil, false, api.ErrArg},
		{two(), []int{-1}, nil, false, api.ErrArg},
		{two(), []int{-1, 0}, nil, false, api.ErrArg},
		{two(), []int{0, 2}, nil, false, api.ErrArg},
		{two(), []int{0, 0}, nil, false, api.ErrArg},
		{two(), []int{1, 0}, nil, false, api.ErrArg},
		{two(), []int{0, 1, 1}, nil, false, api.ErrArg},
		{two(), []int{math.MinInt, 0}, nil, false, api.ErrArg},
		{two(), []int{1, math.MaxInt}, nil, false, api.ErrArg},
		{none, []int{12}, nil, false, api.ErrArg},
	} {
		if l, ok, e := At(x.t, x.starts); !slices.Equal(l, x.plan) || ok != x.ok || e != x.want {
			t.Errorf("At %v %v: %v %v %v, want %v %v %v", x.t, x.starts, l, ok, e, x.plan, x.ok, x.want)
		}
	}
}

func TestP35Count(t *testing.T) {
	even := two()
	even.Start = 5
	for _, x := range []struct {
		t    api.Task
		want int
	}{
		{two(), 1},
		{even, 2},
		{task(10, 0, 0, 0), 1},
		{longest(0, 0, 0, 0), 1},
		{task(7, 3, 2, 1), 1},
		// A start in the second hour would cost nothing, but At pumps nothing there.
		{task(0, 0, 5, 4, 5, 4), 1},
		// A start pumps for one hour or two: the ways to put 12 together from 1 and 2.
		{longest(1, 1, 0, 1), 233},
		{greatest(), 1},
		{task(4, 1, 3, 0, 2, 2), 1},
		{task(2, 1, 0, 2, 0, 2, 0, 2), 3},
	} {
		n, e := Count(x.t)
		wantNumber(t, "Count", n, e, x.want)
	}
}
