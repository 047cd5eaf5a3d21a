package tone

import (
	"slices"

	"diaphone/api"
)

// Sounding: see P1.5.
func Sounding(t []int) (int, api.Errno) {
	if e := Validate(t); e != api.OK {
		return 0, e
	}
	return sounding(t), api.OK
}

func sounding(t []int) int {
	n := 0
	for _, x := range t {
		n += x
	}
	return n
}

// Silence: see P1.5.
func Silence(t []int) (int, bool, api.Errno) {
	if e := Validate(t); e != api.OK {
		return 0, false, e
	}
	if sounding(t) == 0 {
		return 0, false, api.OK
	}
	longest, run := 0, 0
	// Twice the length, since a silence may go on from the last element to the first.
	for i := range 2 * len(t) {
		run++
		if second(t, i) == 1 {
			run = 0
		}
		longest = max(longest, run)
	}
	return longest, true, api.OK
}

// Blasts: see P1.5.
func Blasts(t []int) ([]int, api.Errno) {
	if e := Validate(t); e != api.OK {
		return nil, e
	}
	if t[0] != 1 || t[len(t)-1] != 0 {
		return nil, api.ErrRule
	}
	var out []int
	for i, x := range t {
		if i == 0 || x != t[i-1] {
			out = append(out, 0)
		}
		out[len(out)-1]++
	}
	return out, api.OK
}

// FromBlasts: see P1.5.
func FromBlasts(l []int) ([]int, api.Errno) {
	if len(l) < 2 || len(l)%2 != 0 {
		return nil, api.ErrArg
	}
	sum := 0
	for _, n := range l {
		if n < 1 || n > api.MaxTone {
			return nil, api.ErrArg
		}
		sum += n
	}
	if sum > api.MaxTone {
		return nil, api.ErrLarge
	}
	var out []int
	for i, n := range l {
		out = append(out, slices.Repeat([]int{1 - i%2}, n)...)
	}
	return out, api.OK
}

// Swap: see P1.6.
func Swap(t []int) ([]int, api.Errno) {
	if e := Validate(t); e != api.OK {
		return nil, e
	}
	out := make([]int, len(t))
	for i, x := range t {
		out[i] = 1 - x
	}
	return out, api.OK
}

// Back: see P1.6.
func Back(t []int) ([]int, api.Errno) {
	if e := Validate(t); e != api.OK {
		return nil, e
	}
	out := slices.Clone(t)
	slices.Reverse(out)
	return out, api.OK
}

// Repeat: see P1.6.
func Repeat(t []int, times int) ([]int, api.Errno) {
	if e := Validate(t); e != api.OK {
		return nil, e
	}
	if times < 1 || times > api.MaxTone {
		return nil, api.ErrArg
	}
	if len(t)*times > api.MaxTone {
		return nil, api.ErrLarge
	}
	return slices.Repeat(t, times), api.OK
}

// Count: see P1.6.
func Count(n int) (int, api.Errno) {
	if n < 1 || n > api.MaxNames {
		return 0, api.ErrArg
	}
	return count(n), api.OK
}

// count takes away, from all lists of n seconds, those whose period is smaller; the rest come in groups of n that are alike.
func count(n int) int {
	rest := 1 << n
	for d := range n {
		if d > 0 && n%d == 0 {
			rest -= d * count(d)
		}
	}
	return rest / n
}
