package air

import (
	"math"
	"testing"

	"diaphone/api"
)

func wantTask(t *testing.T, what string, got api.Task, e api.Errno, want api.Task) {
	t.Helper()
	if !equal(got, want) || e != api.OK {
		t.Errorf("%s: %v %v, want %v", what, got, e, want)
	}
}

func TestP35Begin(t *testing.T) {
	x := task(20, 2, 3, 4, 0, 0, 9, 6)
	b, e := Begin(x, 1)
	wantTask(t, "Begin 1", b, e, task(20, 2, 3, 4))
	b, e = Begin(x, 2)
	wantTask(t, "Begin 2", b, e, task(20, 2, 3, 4, 0, 0))
	b, e = Begin(x, 3)
	wantTask(t, "Begin 3", b, e, x)
	b, e = Begin(greatest(), api.MaxHours)
	wantTask(t, "Begin of all", b, e, greatest())
	for _, hours := range []int{0, -1, 4, math.MinInt, math.MaxInt} {
		b, e := Begin(x, hours)
		wantRefused(t, "Begin", equal(b, api.Task{}), e, api.ErrArg)
	}
}

func TestP35Scale(t *testing.T) {
	x := task(30, 2, 3, 4, 0, 0, 9, 5)
	for by := range 11 {
		s, e := Scale(x, by)
		wantTask(t, "Scale", s, e, task(30*by, 2, 3, 4*by, 0, 0, 9, 5*by))
	}
	for _, c := range []struct {
		t  api.Task
		by int
	}{
		// Start is too large first, then a Need, then nothing but the product of 0 is in range.
		{task(100, 1, 1, 5), 10},
		{task(99, 1, 1, 5), 11},
		{x, 11},
		{x, -1},
		{task(0, 1, 1, 1), -1},
		{task(1, 1, 1, 0), -1},
		{task(1, 1, 1, 0), 1000},
		{task(0, 1, 1, 1), 51},
		{task(0, 1, 1, 0, 1, 26), 2},
		{greatest(), 2},
		{x, math.MaxInt},
		{x, math.MinInt},
		// Products that are 0, or small, in the numbers of a machine.
		{task(4, 1, 1, 0), 1 << 62},
		{task(4, 1, 1, 4), math.MinInt},
		{task(0, 1, 1, 8), 1<<61 + 1},
		{task(16, 1, 1, 16), 1<<60 + 1},
	} {
		s, e := Scale(c.t, c.by)
		wantRefused(t, "Scale", equal(s, api.Task{}), e, api.ErrArg)
	}
	s, e := Scale(task(1, 1, 1, 0), api.MaxStart)
	wantTask(t, "Scale by the greatest number", s, e, task(api.MaxStart, 1, 1, 0))
	s, e = Scale(task(0, 1, 1, 1), api.MaxNeed)
	wantTask(t, "Scale of a Need", s, e, task(0, 1, 1, api.MaxNeed))
	// Any product of 0 is in range.
	for _, by := range []int{-1, 0, 1, 1000, math.MinInt, math.MaxInt} {
		s, e := Scale(longest(0, 3, 4, 0), by)
		wantTask(t, "Scale of zeros", s, e, longest(0, 3, 4, 0))
	}
}

// TestP35ScaleLeast checks the consequence.
func TestP35ScaleLeast(t *testing.T) {
	scaled := 0
	for _, x := range append(smallTasks(), largeTasks(100)...) {
		least, _ := Least(x)
		for _, by := range []int{0, 1, 2, 7} {
			s, e := Scale(x, by)
			if e != api.OK {
				continue
			}
			scaled++
			n, e := Least(s)
			wantNumber(t, "Least of Scale", n, e, least*by)
		}
	}
	if scaled < 1000 {
		t.Errorf("only %d tasks were scaled", scaled)
	}
}

func TestP35Dearer(t *testing.T) {
	x := task(20, 2, 3, 4, 0, 0)
	for _, start := range []int{0, 1, 19, 20, 21, api.MaxStart} {
		d, e := Dearer(x, start)
		wantTask(t, "Dearer", d, e, task(start, 2, 3, 4, 0, 0))
	}
	for _, start := range []int{-1, api.MaxStart + 1, math.MinInt, math.MaxInt} {
		d, e := Dearer(x, start)
		wantRefused(t, "Dearer", equal(d, api.Task{}), e, api.ErrArg)
	}
	for _, x := range append(smallTasks(), largeTasks(40)...) {
		before, _ := Least(x)
		for _, by := range []int{1, 5, 100} {
			if d, e := Dearer(x, x.Start+by); e == api.OK {
				if n, _ := Least(d); n < before {
					t.Errorf("Least %v is %v, with a start dearer by %v %v", x, before, by, n)
				}
			}
		}
	}
}

func TestP35Need(t *testing.T) {
	x := task(20, 2, 3, 4, 0, 0, 9, 50)
	for _, c := range []struct {
		hour, by int
		want     api.Task
	}{
		{0, 0, x},
		{0, 1, task(20, 2, 3, 5, 0, 0, 9, 50)},
		{0, -4, task(20, 2, 3, 0, 0, 0, 9, 50)},
		{0, 46, task(20, 2, 3, 50, 0, 0, 9, 50)},
		{1, 50, task(20, 2, 3, 4, 0, 50, 9, 50)},
		{2, -50, task(20, 2, 3, 4, 0, 0, 9, 0)},
	} {
		n, e := Need(x, c.hour, c.by)
		wantTask(t, "Need", n, e, c.want)
	}
	for _, c := range [][2]int{{0, -5}, {0, 47}, {1, -1}, {1, 51}, {2, 1}, {2, -51}, {2, math.MaxInt}, {0, math.MaxInt}, {2, math.MinInt}, {1, math.MinInt}} {
		n, e := Need(x, c[0], c[1])
		wantRefused(t, "Need", equal(n, api.Task{}), e, api.ErrArg)
	}
	for _, hour := range []int{-1, 3, api.MaxHours, math.MinInt, math.MaxInt} {
		for _, by := range []int{0, 1, -1, 500, math.MaxInt} {
			n, e := Need(x, hour, by)
			wantRefused(t, "Need of no hour", equal(n, api.Task{}), e, api.ErrNone)
		}
	}
	for _, x := range append(smallTasks(), largeTasks(40)...) {
		before, _ := Least(x)
		for hour := range x.Need {
			if d, e := Need(x, hour, 1); e == api.OK {
				if n, _ := Least(d); n < before {
					t.Errorf("Least %v is %v, with a greater need %v", x, before, n)
				}
			}
		}
	}
}
