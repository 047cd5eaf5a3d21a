package relay

import "diaphone/api"

// A pair is a state and another one, of the same box or of another one; both are led on by the same inputs.
type pair struct {
	state
	other state
}

func (p pair) after(input int) pair {
	return pair{p.state.after(input), p.other.after(input)}
}

func (p pair) isToldBySignal() bool {
	return p.signal() != p.other.signal()
}

// tell returns the first one, in ascending order, of the shortest words after which the states of a pair give different signals.
func tell(p pair) ([]int, bool) {
	return firstWord(places(p, pair.after), pair.isToldBySignal)
}

// Same: see P8.2.
func Same(a, b api.Box) (bool, api.Errno) {
	_, told, e := Tell(a, b)
	return !told && e == api.OK, e
}

// Tell: see P8.3.
func Tell(a, b api.Box) ([]int, bool, api.Errno) {
	if e := Validate(a); e != api.OK {
		return nil, false, e
	}
	if e := Validate(b); e != api.OK {
		return nil, false, e
	}
	word, ok := tell(pair{state{&a, 0}, state{&b, 0}})
	return word, ok, api.OK
}

// TellStates: see P8.3.
func TellStates(b api.Box, i, j int) ([]int, bool, api.Errno) {
	if e := Validate(b); e != api.OK {
		return nil, false, e
	}
	if !isState(b, i) || !isState(b, j) {
		return nil, false, api.ErrNone
	}
	word, ok := tell(pair{state{&b, i}, state{&b, j}})
	return word, ok, api.OK
}
