package relay

import (
	"slices"

	"diaphone/api"
)

// A mark is something of a state; it tells two states apart if it is not equal for both.
type mark struct {
	of func(s state) int
}

// marks are the signal of a state, and the kinds of the states that follow on each input.
func marks(kinds []int) []mark {
	return []mark{
		{of: state.signal},
		{of: func(s state) int { return kinds[s.after(0).number] }},
		{of: func(s state) int { return kinds[s.after(1).number] }},
	}
}

func (p pair) isTold(by []mark) bool {
	return slices.ContainsFunc(by, func(m mark) bool { return m.of(p.state) != m.of(p.other) })
}

// kindsOf begins with one kind of all states, and tells more of them apart in each round: in the first one by the signal, then by words of one input more.
// Words with fewer inputs than there are states tell all apart that are not alike, so there are as many rounds as states.
func kindsOf(b api.Box) []int {
	kinds := make([]int, len(b.Out))
	for range b.Out {
		kinds = finer(b, marks(kinds))
	}
	return kinds
}

// finer returns, for each state, the number of the smallest state that no mark tells apart from it.
func finer(b api.Box, by []mark) []int {
	var out []int
	for i := range b.Out {
		first := 0
		for (pair{state{&b, first}, state{&b, i}}).isTold(by) {
			first++
		}
		out = append(out, first)
	}
	return out
}

// Kinds: see P8.2.
func Kinds(b api.Box) ([]int, api.Errno) {
	if e := Validate(b); e != api.OK {
		return nil, e
	}
	return kindsOf(b), api.OK
}

// Smallest: see P8.2.
func Smallest(b api.Box) (api.Box, api.Errno) {
	if e := Validate(b); e != api.OK {
		return api.Box{}, e
	}
	kinds := kindsOf(b)
	// The smallest state of each kind stands for all of them.
	after := func(s state, input int) state {
		return state{&b, kinds[s.after(input).number]}
	}
	all := places(state{&b, 0}, after)
	var out api.Box
	for _, p := range all {
		var next [inputs]int
		for input := range next {
			next[input] = find(all, after(p.at, input))
		}
		out.Next = append(out.Next, next)
		out.Out = append(out.Out, p.at.signal())
	}
	return out, api.OK
}
