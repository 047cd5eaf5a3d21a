package echo

import (
	"slices"

	"diaphone/api"
)

// checked returns the places, or the error if they are not cliffs.
func checked(c []int) ([]int, api.Errno) {
	if e := Validate(c); e != api.OK {
		return nil, e
	}
	return c, api.OK
}

// combined returns the set of what comes of a place of c and one of d.
func combined(c, d []int, combine func(p, q int) int) ([]int, api.Errno) {
	if e := validateBoth(c, d); e != api.OK {
		return nil, e
	}
	var out []int
	for _, p := range c {
		for _, q := range d {
			out = append(out, combine(p, q))
		}
	}
	slices.Sort(out)
	if hasTwice(out) {
		return nil, api.ErrTwice
	}
	return checked(out)
}

// Plus: see P5.5.
func Plus(c, d []int) ([]int, api.Errno) {
	return combined(c, d, func(p, q int) int { return p + q })
}

// Minus: see P5.5.
func Minus(c, d []int) ([]int, api.Errno) {
	return combined(c, d, func(p, q int) int { return p - q })
}

// Shift: see P5.6.
func Shift(c []int, by int) ([]int, api.Errno) {
	if e := Validate(c); e != api.OK {
		return nil, e
	}
	// A sum that is more than an int holds wraps around to a number that is far from any cliff, too.
	return checked(shift(c, by))
}

func shift(c []int, by int) []int {
	var out []int
	for _, place := range c {
		out = append(out, place+by)
	}
	return out
}

// Scale: see P5.6.
func Scale(c []int, by int) ([]int, api.Errno) {
	if e := Validate(c); e != api.OK {
		return nil, e
	}
	if by <= 0 {
		return nil, api.ErrArg
	}
	// Held to this bound, since a product may be more than an int holds; beyond it, just the product of 0 is a place, whatever the number is.
	by = min(by, api.MaxPlace+1)
	var out []int
	for _, place := range c {
		out = append(out, place*by)
	}
	return checked(out)
}

// With: see P5.6.
func With(c []int, place int) ([]int, api.Errno) {
	if e := Validate(c); e != api.OK {
		return nil, e
	}
	if slices.Contains(c, place) {
		return nil, api.ErrTwice
	}
	out := append(slices.Clone(c), place)
	slices.Sort(out)
	return checked(out)
}
