package relay

import "diaphone/api"

// longest is how many inputs the words have at most that are counted.
const longest = 20

// A set has a true for each state of a box that is in it.
type set struct {
	box *api.Box
	has [api.MaxStates]bool
}

func (s set) after(input int) set {
	out := set{box: s.box}
	for number, is := range s.has {
		if is {
			out.has[s.box.Next[number][input]] = true
		}
	}
	return out
}

func (s set) isOne() bool {
	count := 0
	for _, is := range s.has {
		if is {
			count++
		}
	}
	return count == 1
}

// Sync: see P8.4.
func Sync(b api.Box) ([]int, bool, api.Errno) {
	if e := Validate(b); e != api.OK {
		return nil, false, e
	}
	all := set{box: &b}
	for number := range b.Out {
		all.has[number] = true
	}
	word, ok := firstWord(places(all, set.after), set.isOne)
	return word, ok, api.OK
}

// Count: see P8.4.
func Count(b api.Box, n, out int) (int, api.Errno) {
	if e := Validate(b); e != api.OK {
		return 0, e
	}
	if n < 0 || n > longest || !isSignal(out) {
		return 0, api.ErrArg
	}
	words := make([]int, len(b.Out))
	words[0] = 1
	for range n {
		words = longer(b, words)
	}
	count := 0
	for number, signal := range b.Out {
		if signal == out {
			count += words[number]
		}
	}
	return count, api.OK
}

// longer returns how many words of one input more lead to each state.
func longer(b api.Box, words []int) []int {
	out := make([]int, len(words))
	for number, next := range b.Next {
		for _, to := range next {
			out[to] += words[number]
		}
	}
	return out
}
