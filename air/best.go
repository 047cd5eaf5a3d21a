package air

import (
	"slices"

	"diaphone/api"
)

// A table has, for each number of first hours, the smallest cost of a plan for them alone, and the last hour in which such a plan starts anew: it pumps there what is needed from there on, if anything.
type table struct {
	costs, lasts []int
}

// cheapest looks at tidy plans only, since one of them is a best one: before an hour in which something is pumped there is no stock, so the hours before it are a task of their own.
func cheapest(t api.Task) table {
	n := len(t.Need)
	b := table{costs: make([]int, n+1), lasts: make([]int, n+1)}
	known := make([]bool, n+1)
	known[0] = true
	var find func(hours int) int
	find = func(hours int) int {
		if known[hours] {
			return b.costs[hours]
		}
		for last := range hours {
			c := find(last)
			c += together(t, last, hours)
			if last == 0 || c < b.costs[hours] {
				b.costs[hours], b.lasts[hours] = c, last
			}
		}
		known[hours] = true
		return b.costs[hours]
	}
	find(n)
	return b
}

// together is what it costs to pump, in the hour from, all that is needed from it on before the hour end.
func together(t api.Task, from, end int) int {
	units, sum := 0, 0
	for hour := from; hour < end; hour++ {
		units += t.Need[hour]
		sum += t.Need[hour] * way(t, from, hour)
	}
	if units == 0 {
		return 0
	}
	return t.Start + sum
}

// Least: see P3.2.
func Least(t api.Task) (int, api.Errno) {
	if e := Validate(t); e != api.OK {
		return 0, e
	}
	return least(t), api.OK
}

func least(t api.Task) int {
	return cheapest(t).costs[len(t.Need)]
}

// Best: see P3.2.
func Best(t api.Task) ([]int, api.Errno) {
	if e := Validate(t); e != api.OK {
		return nil, e
	}
	lasts := cheapest(t).lasts
	plan := make([]int, len(t.Need))
	for end := len(plan); end > 0; {
		start := lasts[end]
		for hour := start; hour < end; hour++ {
			plan[start] += t.Need[hour]
		}
		end = start
	}
	return plan, api.OK
}

// Firsts: see P3.2.
func Firsts(t api.Task) ([]int, api.Errno) {
	if e := Validate(t); e != api.OK {
		return nil, e
	}
	return cheapest(t).costs, api.OK
}

// At: see P3.3.
func At(t api.Task, starts []int) ([]int, bool, api.Errno) {
	if e := Validate(t); e != api.OK {
		return nil, false, e
	}
	for i, s := range starts {
		if s < 0 || s >= len(t.Need) || i > 0 && s <= starts[i-1] {
			return nil, false, api.ErrArg
		}
	}
	plan, ok := at(t, starts)
	return plan, ok, api.OK
}

func at(t api.Task, starts []int) ([]int, bool) {
	plan := make([]int, len(t.Need))
	for hour := range len(plan) {
		if t.Need[hour] == 0 {
			continue
		}
		s, ok := nearest(t, starts, hour)
		if !ok {
			return nil, false
		}
		plan[s] += t.Need[hour]
	}
	return plan, true
}

// nearest returns, of the starts that are not after the hour, the first one of those with the smallest way to it.
func nearest(t api.Task, starts []int, hour int) (int, bool) {
	found, ok := 0, false
	for _, s := range starts {
		if s <= hour && (!ok || way(t, s, hour) < way(t, found, hour)) {
			found, ok = s, true
		}
	}
	return found, ok
}

// Count: see P3.5.
func Count(t api.Task) (int, api.Errno) {
	if e := Validate(t); e != api.OK {
		return 0, e
	}
	count, smallest := 0, least(t)
	for bits := range 1 << len(t.Need) {
		starts := members(bits)
		plan, ok := at(t, starts)
		if ok && slices.Equal(pumped(plan), starts) && cost(t, plan) == smallest {
			count++
		}
	}
	return count, api.OK
}

// members returns the hours of which the bits are set.
func members(bits int) []int {
	var out []int
	for hour := range api.MaxHours {
		if bits>>hour&1 == 1 {
			out = append(out, hour)
		}
	}
	return out
}
