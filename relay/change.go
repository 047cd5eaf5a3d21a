package relay

import (
	"slices"

	"diaphone/api"
)

// renumber returns a box of so many states in which the state i of b has the number to[i].
func renumber(b api.Box, to []int, count int) api.Box {
	out := api.Box{Next: make([][2]int, count), Out: make([]int, count)}
	for i, number := range to {
		out.Next[number] = [2]int{to[b.Next[i][0]], to[b.Next[i][1]]}
		out.Out[number] = b.Out[i]
	}
	return out
}

// Rename: see P8.5.
func Rename(b api.Box, to []int) (api.Box, api.Errno) {
	if e := Validate(b); e != api.OK {
		return api.Box{}, e
	}
	if len(to) != len(b.Out) || to[0] != 0 || !slices.Equal(slices.Sorted(slices.Values(to)), numbersFrom(0, len(to))) {
		return api.Box{}, api.ErrArg
	}
	return renumber(b, to, len(to)), api.OK
}

// numbersFrom returns so many numbers from a first one on.
func numbersFrom(first, count int) []int {
	out := make([]int, count)
	for i := range out {
		out[i] = first + i
	}
	return out
}

// From: see P8.5.
func From(b api.Box, state int) (api.Box, api.Errno) {
	if e := validateState(b, state); e != api.OK {
		return api.Box{}, e
	}
	to := numbersFrom(0, len(b.Out))
	to[0], to[state] = state, 0
	return renumber(b, to, len(to)), api.OK
}

// Late: see P8.5.
func Late(b api.Box) (api.Box, api.Errno) {
	if e := Validate(b); e != api.OK {
		return api.Box{}, e
	}
	count := len(b.Out)
	if count >= api.MaxStates {
		return api.Box{}, api.ErrLarge
	}
	out := renumber(b, numbersFrom(1, count), count+1)
	out.Next[0] = [2]int{1, 1}
	return out, api.OK
}

// Turn: see P8.5.
func Turn(b api.Box) (api.Box, api.Errno) {
	if e := Validate(b); e != api.OK {
		return api.Box{}, e
	}
	out := copyOf(b)
	for i, next := range out.Next {
		out.Next[i] = [2]int{next[1], next[0]}
	}
	return out, api.OK
}

// Signals: see P8.5.
func Signals(b api.Box, to []int) (api.Box, api.Errno) {
	if e := Validate(b); e != api.OK {
		return api.Box{}, e
	}
	if len(to) != api.MaxOut+1 {
		return api.Box{}, api.ErrArg
	}
	for _, signal := range to {
		if !isSignal(signal) {
			return api.Box{}, api.ErrArg
		}
	}
	out := copyOf(b)
	for i, signal := range out.Out {
		out.Out[i] = to[signal]
	}
	return out, api.OK
}

func copyOf(b api.Box) api.Box {
	return api.Box{Next: slices.Clone(b.Next), Out: slices.Clone(b.Out)}
}
