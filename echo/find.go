package echo

import (
	"slices"

	"diaphone/api"
)

// longestRuler is how many cliffs Shortest finds at most.
const longestRuler = 5

// A tally is, for each delay, how often it may come.
type tally [api.MaxPlace + 1]int

func tallied(delays []int) tally {
	var t tally
	for _, d := range delays {
		t[d]++
	}
	return t
}

// without returns what is left of the tally when a place comes to the cliffs; false if one of its distances from them may not come, or not once more.
func (t tally) without(c []int, place int) (tally, bool) {
	for _, before := range c {
		d := place - before
		if t[d] == 0 {
			return tally{}, false
		}
		t[d]--
	}
	return t, true
}

// search visits, in ascending order, so many cliffs that go on from those of begin, with further delays that the tally has.
func search(begin []int, count int, left tally, visit func(c []int)) {
	if len(begin) == count {
		visit(slices.Clone(begin))
		return
	}
	for place := begin[len(begin)-1] + 1; place <= api.MaxPlace; place++ {
		if rest, ok := left.without(begin, place); ok {
			search(append(begin, place), count, rest, visit)
		}
	}
}

// found is what a search panics with when the first cliffs are enough. They are normal: their mirror image would have been visited too, and before them if it were less.
type found []int

func stop(c []int) {
	panic(found(c))
}

// CheckCliffs: see P5.3.
func CheckCliffs(delays, c []int) api.Errno {
	if e := validateDelays(delays); e != api.OK {
		return e
	}
	if e := Validate(c); e != api.OK {
		return e
	}
	if !slices.Equal(differences(c), delays) {
		return api.ErrProof
	}
	return api.OK
}

// Find: see P5.3.
func Find(delays []int) (c []int, ok bool, e api.Errno) {
	if e := validateDelays(delays); e != api.OK {
		return nil, false, e
	}
	defer func() {
		if first, is := recover().(found); is {
			c, ok = first, true
		}
	}()
	search([]int{0}, cliffsWith(len(delays)), tallied(delays), stop)
	return nil, false, api.OK
}

// All: see P5.3.
func All(delays []int) ([][]int, api.Errno) {
	if e := validateDelays(delays); e != api.OK {
		return nil, e
	}
	var all [][]int
	search([]int{0}, cliffsWith(len(delays)), tallied(delays), func(c []int) {
		if isNormal(c) {
			all = append(all, c)
		}
	})
	return all, api.OK
}

// Shortest: see P5.4.
func Shortest(n int) (c []int, e api.Errno) {
	if n < 1 || n > longestRuler {
		return nil, api.ErrArg
	}
	defer func() {
		if first, is := recover().(found); is {
			c = first
		}
	}()
	// Each delay may come once; the greatest one grows until the search stops, which it does, since rulers of so few cliffs are shorter than MaxPlace.
	var once tally
	for greatest := range len(once) {
		once[greatest] = 1
		search([]int{0}, n, once, stop)
	}
	return nil, api.OK
}
