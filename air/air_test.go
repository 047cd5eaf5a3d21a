package air

import (
	"math"
	"slices"
	"testing"

	"diaphone/api"
)

// task returns a task with Cost and Need by turns.
func task(start, keep int, hours ...int) api.Task {
	t := api.Task{Start: start, Keep: keep}
	for i := 0; i < len(hours); i += 2 {
		t.Cost, t.Need = append(t.Cost, hours[i]), append(t.Need, hours[i+1])
	}
	return t
}

// two is the task of the chapter's first example.
func two() api.Task {
	return task(10, 1, 0, 5, 0, 5)
}

// longest returns a task with as many hours as there may be, all the same.
func longest(start, keep, cost, need int) api.Task {
	return task(start, keep, slices.Repeat([]int{cost, need}, api.MaxHours)...)
}

// greatest is the task with the greatest numbers.
func greatest() api.Task {
	return longest(api.MaxStart, api.MaxKeep, api.MaxKeep, api.MaxNeed)
}

// tasksOf returns all tasks of so many hours with these numbers.
func tasksOf(hours int, starts, keeps, costs, needs []int) []api.Task {
	var out []api.Task
	for _, start := range starts {
		for _, keep := range keeps {
			out = append(out, api.Task{Start: start, Keep: keep})
		}
	}
	for range hours {
		var next []api.Task
		for _, t := range out {
			for _, c := range costs {
				for _, n := range needs {
					x := t
					x.Cost, x.Need = append(slices.Clone(t.Cost), c), append(slices.Clone(t.Need), n)
					next = append(next, x)
				}
			}
		}
		out = next
	}
	return out
}

func smallTasks() []api.Task {
	var out []api.Task
	for hours := 1; hours <= 3; hours++ {
		out = append(out, tasksOf(hours, []int{0, 1, 4}, []int{0, 1}, []int{0, 1, 3}, []int{0, 1, 2})...)
	}
	return append(out, tasksOf(4, []int{3}, []int{0, 2}, []int{0, 5}, []int{0, 2})...)
}

// largeTasks returns tasks of many hours, the same ones each time.
func largeTasks(count int) []api.Task {
	state := uint32(1)
	upTo := func(n int) int {
		state = state*1664525 + 1013904223
		return int(state>>16) % (n + 1)
	}
	out := make([]api.Task, count)
	for i := range out {
		t := api.Task{Start: upTo(api.MaxStart), Keep: upTo(api.MaxKeep)}
		cost, need := upTo(api.MaxKeep), upTo(api.MaxNeed)
		if i%2 == 1 {
			t.Start, t.Keep = t.Start%100, t.Keep%4
		}
		for range api.MaxHours - i%4 {
			t.Cost, t.Need = append(t.Cost, upTo(cost)), append(t.Need, upTo(need)*min(1, upTo(3)))
		}
		out[i] = t
	}
	return out
}

// invalid returns the arguments that are no tasks; all are refused with ErrArg.
func invalid() []api.Task {
	out := []api.Task{
		{},
		{Start: 10, Keep: 1},
		{Start: 10, Keep: 1, Cost: []int{}, Need: []int{}},
		{Start: 10, Keep: 1, Cost: []int{1}},
		{Start: 10, Keep: 1, Need: []int{1}},
		{Start: 10, Keep: 1, Cost: []int{1, 1}, Need: []int{1}},
		{Start: 10, Keep: 1, Cost: []int{1}, Need: []int{1, 1}},
		{Start: 10, Keep: 1, Cost: make([]int, api.MaxHours+1), Need: make([]int, api.MaxHours+1)},
		{Start: 10, Keep: 1, Cost: make([]int, api.MaxHours), Need: make([]int, api.MaxHours+1)},
	}
	for _, x := range []int{-1, math.MinInt, math.MaxInt} {
		out = append(out, task(x, 1, 1, 1), task(10, x, 1, 1), task(10, 1, x, 1), task(10, 1, 1, x))
	}
	out = append(out, task(api.MaxStart+1, 1, 1, 1), task(10, api.MaxKeep+1, 1, 1))
	for _, at := range []int{0, api.MaxHours - 1} {
		for _, x := range []int{-1, api.MaxKeep + 1} {
			t := longest(10, 1, 1, 1)
			t.Cost[at] = x
			out = append(out, t)
		}
		for _, x := range []int{-1, api.MaxNeed + 1} {
			t := longest(10, 1, 1, 1)
			t.Need[at] = x
			out = append(out, t)
		}
	}
	return out
}

func equal(a, b api.Task) bool {
	return a.Start == b.Start && a.Keep == b.Keep && slices.Equal(a.Cost, b.Cost) && slices.Equal(a.Need, b.Need)
}

func wantRefused(t *testing.T, what string, zero bool, got, want api.Errno) {
	t.Helper()
	if got != want || !zero {
		t.Errorf("%s: error %v (other results zero: %v), want %v", what, got, zero, want)
	}
}

func wantNumber(t *testing.T, what string, got int, e api.Errno, want int) {
	t.Helper()
	if got != want || e != api.OK {
		t.Errorf("%s: %v %v, want %v", what, got, e, want)
	}
}

func wantList(t *testing.T, what string, got []int, e api.Errno, want ...int) {
	t.Helper()
	if !slices.Equal(got, want) || e != api.OK {
		t.Errorf("%s: %v %v, want %v", what, got, e, want)
	}
}

// plainPlans returns all right plans.
func plainPlans(x api.Task) [][]int {
	total := 0
	for _, n := range x.Need {
		total += n
	}
	var out [][]int
	var extend func(plan []int, stock, left int)
	extend = func(plan []int, stock, left int) {
		if len(plan) == len(x.Need) {
			if stock == 0 {
				out = append(out, plan)
			}
			return
		}
		for units := range left + 1 {
			if now := stock + units - x.Need[len(plan)]; now >= 0 {
				extend(append(slices.Clone(plan), units), now, left-units)
			}
		}
	}
	extend(nil, 0, total)
	return out
}

// plainCost adds up what each unit costs: the units are used in the order in which they are pumped.
func plainCost(x api.Task, plan []int) int {
	sum, to, used := 0, 0, 0
	for from, units := range plan {
		if units > 0 {
			sum += x.Start
		}
		for range units {
			for used == x.Need[to] {
				to, used = to+1, 0
			}
			sum += x.Cost[from] + x.Keep*(to-from)
			used++
		}
	}
	return sum
}

// plainRight reports whether nothing is needed before it is pumped, and nothing left in the end.
func plainRight(x api.Task, plan []int) bool {
	all := 0
	for i := range plan {
		all += plan[i] - x.Need[i]
		if all < 0 {
			return false
		}
	}
	return all == 0
}

func TestP31Validate(t *testing.T) {
	for _, x := range invalid() {
		if e := Validate(x); e != api.ErrArg {
			t.Errorf("Validate %v: %v", x, e)
		}
	}
	valid := append(smallTasks(), largeTasks(50)...)
	valid = append(valid, two(), greatest(), longest(0, 0, 0, 0), task(0, 0, 0, 0), task(999, 20, 20, 50))
	for _, x := range valid {
		if e := Validate(x); e != api.OK {
			t.Errorf("Validate %v: %v", x, e)
		}
	}
}

// TestP31Errors asks every function for the error of Validate, though the other arguments have errors too, those of another kind where there are any.
func TestP31Errors(t *testing.T) {
	for _, x := range invalid() {
		wrong := slices.Repeat([]int{3}, len(x.Need))
		for _, f := range []func(api.Task, []int) ([]int, api.Errno){
			Stock, Starts,
			func(x api.Task, _ []int) ([]int, api.Errno) { return Best(x) },
			func(x api.Task, _ []int) ([]int, api.Errno) { return Firsts(x) },
			func(x api.Task, _ []int) ([]int, api.Errno) { return Prices(x) },
		} {
			l, e := f(x, wrong)
			wantRefused(t, "a list", len(l) == 0, e, api.ErrArg)
		}
		for _, f := range []func(api.Task, []int) (int, api.Errno){
			CheckPlan, CheckPrices,
			func(x api.Task, _ []int) (int, api.Errno) { return Least(x) },
			func(x api.Task, _ []int) (int, api.Errno) { return Count(x) },
		} {
			n, e := f(x, wrong)
			wantRefused(t, "a number", n == 0, e, api.ErrArg)
		}
		is, e := IsTidy(x, wrong)
		wantRefused(t, "IsTidy", !is, e, api.ErrArg)
		l, ok, e := At(x, nil)
		wantRefused(t, "At", len(l) == 0 && !ok, e, api.ErrArg)
		wantRefused(t, "CheckBest", true, CheckBest(x, wrong, wrong), api.ErrArg)
		for _, f := range []func(api.Task) (api.Task, api.Errno){
			func(x api.Task) (api.Task, api.Errno) { return Begin(x, 1) },
			func(x api.Task) (api.Task, api.Errno) { return Scale(x, 0) },
			func(x api.Task) (api.Task, api.Errno) { return Dearer(x, 10) },
			func(x api.Task) (api.Task, api.Errno) { return Need(x, -1, 0) },
			func(x api.Task) (api.Task, api.Errno) { return Need(x, 0, 0) },
		} {
			c, e := f(x)
			wantRefused(t, "a changed task", equal(c, api.Task{}), e, api.ErrArg)
		}
	}
}

// wantPlanRefused asks all functions with a plan for its error, CheckBest with prices that are refused too.
func wantPlanRefused(t *testing.T, x api.Task, plan []int, want api.Errno) {
	t.Helper()
	n, e := CheckPlan(x, plan)
	wantRefused(t, "CheckPlan", n == 0, e, want)
	l, e := Stock(x, plan)
	wantRefused(t, "Stock", len(l) == 0, e, want)
	l, e = Starts(x, plan)
	wantRefused(t, "Starts", len(l) == 0, e, want)
	is, e := IsTidy(x, plan)
	wantRefused(t, "IsTidy", !is, e, want)
	wantRefused(t, "CheckBest", true, CheckBest(x, plan, []int{api.MaxPrice, api.MaxPrice}), want)
}

func TestP31PlanErrors(t *testing.T) {
	for _, x := range []struct {
		plan []int
		want api.Errno
	}{
		{nil, api.ErrArg},
		{[]int{}, api.ErrArg},
		{[]int{10}, api.ErrArg},
		{[]int{10, 0, 0}, api.ErrArg},
		{[]int{11, -1}, api.ErrArg},
		{[]int{-1, 11}, api.ErrArg},
		{[]int{601, 0}, api.ErrArg},
		{[]int{10, 601}, api.ErrArg},
		{[]int{math.MaxInt, 0}, api.ErrArg},
		{[]int{math.MinInt, 0}, api.ErrArg},
		// The whole plan is examined for ErrArg before it is judged.
		{[]int{0, -1}, api.ErrArg},
		{[]int{4, math.MaxInt}, api.ErrArg},
		{[]int{4, 6}, api.ErrRule},
		{[]int{0, 10}, api.ErrRule},
		{[]int{5, 4}, api.ErrRule},
		{[]int{10, 1}, api.ErrRule},
		{[]int{0, 0}, api.ErrRule},
		{[]int{600, 600}, api.ErrRule},
	} {
		wantPlanRefused(t, two(), x.plan, x.want)
	}
}

// TestP31AllPlans holds the functions with a plan against all plans of small tasks.
func TestP31AllPlans(t *testing.T) {
	for _, x := range smallTasks() {
		for _, plan := range plainPlans(x) {
			n, e := CheckPlan(x, plan)
			wantNumber(t, "CheckPlan", n, e, plainCost(x, plan))
			var left, starts []int
			stock, tidy := 0, true
			for hour, units := range plan {
				if units > 0 {
					starts = append(starts, hour)
					tidy = tidy && stock == 0
				}
				stock += units - x.Need[hour]
				left = append(left, stock)
			}
			l, e := Stock(x, plan)
			wantList(t, "Stock", l, e, left...)
			l, e = Starts(x, plan)
			wantList(t, "Starts", l, e, starts...)
			if is, e := IsTidy(x, plan); is != tidy || e != api.OK {
				t.Errorf("IsTidy %v %v: %v %v", x, plan, is, e)
			}
		}
	}
}

// TestP31RightPlans tells the right plans from all others.
func TestP31RightPlans(t *testing.T) {
	for _, x := range tasksOf(3, []int{1}, []int{1}, []int{1}, []int{0, 1, 3}) {
		for a := range 8 {
			for b := range 8 {
				for c := range 8 {
					want := api.ErrRule
					if plainRight(x, []int{a, b, c}) {
						want = api.OK
					}
					if _, e := CheckPlan(x, []int{a, b, c}); e != want {
						t.Fatalf("CheckPlan %v %v %v %v: %v, want %v", x, a, b, c, e, want)
					}
				}
			}
		}
	}
}

func TestP31Examples(t *testing.T) {
	n, e := CheckPlan(two(), []int{10, 0})
	wantNumber(t, "example 1", n, e, 15)
	n, e = CheckPlan(two(), []int{5, 5})
	wantNumber(t, "example 1", n, e, 20)
	// All is pumped in the first hour: 550 are kept after it, then 500, down to 0.
	once := make([]int, api.MaxHours)
	once[0] = api.MaxHours * api.MaxNeed
	n, e = CheckPlan(greatest(), once)
	wantNumber(t, "CheckPlan of all at once", n, e, 999+20*600+20*50*66)
	l, e := Stock(greatest(), once)
	wantList(t, "Stock of all at once", l, e, 550, 500, 450, 400, 350, 300, 250, 200, 150, 100, 50, 0)
	none := make([]int, api.MaxHours)
	n, e = CheckPlan(longest(999, 20, 20, 0), none)
	wantNumber(t, "CheckPlan of nothing", n, e, 0)
	l, e = Starts(longest(999, 20, 20, 0), none)
	wantList(t, "Starts of nothing", l, e)
	if is, e := IsTidy(task(1, 1, 1, 0, 1, 0, 1, 4), []int{2, 0, 2}); is || e != api.OK {
		t.Errorf("IsTidy with stock from two hours before: %v %v", is, e)
	}
}

// TestMemory sees to it that no function changes its arguments or gives out a part of them (R5).
func TestMemory(t *testing.T) {
	for i, f := range []func(api.Task) (api.Task, api.Errno){
		func(x api.Task) (api.Task, api.Errno) { return Begin(x, 1) },
		func(x api.Task) (api.Task, api.Errno) { return Begin(x, 2) },
		func(x api.Task) (api.Task, api.Errno) { return Scale(x, 1) },
		func(x api.Task) (api.Task, api.Errno) { return Scale(x, 2) },
		func(x api.Task) (api.Task, api.Errno) { return Dearer(x, 10) },
		func(x api.Task) (api.Task, api.Errno) { return Need(x, 0, 0) },
		func(x api.Task) (api.Task, api.Errno) { return Need(x, 1, 2) },
	} {
		x := two()
		y, e := f(x)
		if e != api.OK || !equal(x, two()) {
			t.Errorf("%d: %v, the task is %v afterwards", i, e, x)
		}
		for _, l := range [][]int{y.Cost[:cap(y.Cost)], y.Need[:cap(y.Need)]} {
			for k := range l {
				l[k] = 77
			}
		}
		if !equal(x, two()) {
			t.Errorf("%d: the result shares memory with the task", i)
		}
	}
	x, plan, prices, starts := two(), []int{10, 0}, []int{5, 10}, []int{0, 1}
	e := CheckBest(x, plan, prices)
	CheckPlan(x, plan)
	CheckPrices(x, prices)
	IsTidy(x, plan)
	Stock(x, plan)
	Starts(x, plan)
	Firsts(x)
	Prices(x)
	Best(x)
	At(x, starts)
	Count(x)
	if e != api.OK || !equal(x, two()) || !slices.Equal(plan, []int{10, 0}) || !slices.Equal(prices, []int{5, 10}) || !slices.Equal(starts, []int{0, 1}) {
		t.Errorf("%v, the arguments are %v %v %v %v afterwards", e, x, plan, prices, starts)
	}
}
