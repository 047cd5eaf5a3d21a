package relay

import (
	"slices"

	"diaphone/api"
)

// A place is what words lead to, with the first one, in ascending order, of the shortest of these words.
type place[T comparable] struct {
	at   T
	word []int
}

// places returns all to which words lead from the first one on.
// The shorter words come first, and equally long ones in ascending order, so that the first word that leads to a place is the one that is kept.
func places[T comparable](first T, after func(at T, input int) T) []place[T] {
	out := []place[T]{{at: first}}
	for i := 0; i < len(out); i++ {
		for input := range inputs {
			next := after(out[i].at, input)
			if find(out, next) < 0 {
				out = append(out, place[T]{next, append(slices.Clone(out[i].word), input)})
			}
		}
	}
	return out
}

// find returns which of the places it is, or a negative number.
func find[T comparable](all []place[T], at T) int {
	return slices.IndexFunc(all, func(p place[T]) bool { return p.at == at })
}

// firstWord returns the first one, in ascending order, of the shortest words that lead to a place that is wanted.
func firstWord[T comparable](all []place[T], isWanted func(at T) bool) ([]int, bool) {
	i := slices.IndexFunc(all, func(p place[T]) bool { return isWanted(p.at) })
	if i < 0 {
		return nil, false
	}
	return all[i].word, true
}

// reached returns the states to which words lead from the state 0 on.
func reached(b api.Box) []place[state] {
	return places(state{&b, 0}, state.after)
}

// Reached: see P8.1.
func Reached(b api.Box) ([]int, api.Errno) {
	if e := Validate(b); e != api.OK {
		return nil, e
	}
	var out []int
	for _, p := range reached(b) {
		out = append(out, p.at.number)
	}
	slices.Sort(out)
	return out, api.OK
}

// To: see P8.1.
func To(b api.Box, state int) ([]int, bool, api.Errno) {
	if e := validateState(b, state); e != api.OK {
		return nil, false, e
	}
	for _, p := range reached(b) {
		if p.at.number == state {
			return p.word, true, api.OK
		}
	}
	return nil, false, api.OK
}
