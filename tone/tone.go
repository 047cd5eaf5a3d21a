// Package tone is layer 1: it tells characters of signals apart (see shared/doc/01-tone.md).
//
// The functions with small initials take arguments that are valid already.
package tone

import (
	"slices"

	"diaphone/api"
)

// Validate: see P1.1.
func Validate(t []int) api.Errno {
	if len(t) < 1 || len(t) > api.MaxTone {
		return api.ErrLarge
	}
	return validateSeconds(t)
}

func validateSeconds(l []int) api.Errno {
	for _, x := range l {
		if x != 0 && x != 1 {
			return api.ErrArg
		}
	}
	return api.OK
}

func validateBoth(s, t []int) api.Errno {
	if e := Validate(s); e != api.OK {
		return e
	}
	return Validate(t)
}

func validateList(l [][]int) api.Errno {
	if len(l) > api.MaxTones {
		return api.ErrLarge
	}
	for _, t := range l {
		if e := Validate(t); e != api.OK {
			return e
		}
	}
	return api.OK
}

// At: see P1.1.
func At(t []int, i int) (int, api.Errno) {
	if e := Validate(t); e != api.OK {
		return 0, e
	}
	return second(t, i), api.OK
}

func second(t []int, i int) int {
	return t[modulo(i, len(t))]
}

func modulo(i, n int) int {
	m := i % n
	if m < 0 {
		m += n
	}
	return m
}

// Period: see P1.2.
func Period(t []int) (int, api.Errno) {
	if e := Validate(t); e != api.OK {
		return 0, e
	}
	return period(t), api.OK
}

func period(t []int) int {
	p := 1
	for !repeatsAfter(t, p) {
		p++
	}
	return p
}

func repeatsAfter(t []int, p int) bool {
	for i, x := range t {
		if second(t, i+p) != x {
			return false
		}
	}
	return true
}

// Root: see P1.2.
func Root(t []int) ([]int, api.Errno) {
	if e := Validate(t); e != api.OK {
		return nil, e
	}
	return root(t), api.OK
}

func root(t []int) []int {
	return slices.Clone(t[:period(t)])
}

// Turn: see P1.2.
func Turn(t []int, by int) ([]int, api.Errno) {
	if e := Validate(t); e != api.OK {
		return nil, e
	}
	return turn(t, by), api.OK
}

func turn(t []int, by int) []int {
	// Reduced first, since by plus an index may be more than an int holds.
	from := modulo(by, len(t))
	out := make([]int, len(t))
	for i := range out {
		out[i] = second(t, from+i)
	}
	return out
}

// Name: see P1.2.
func Name(t []int) ([]int, api.Errno) {
	if e := Validate(t); e != api.OK {
		return nil, e
	}
	return name(t), api.OK
}

func name(t []int) []int {
	r := root(t)
	first := r
	for by := range len(r) {
		if x := turn(r, by); slices.Compare(x, first) < 0 {
			first = x
		}
	}
	return first
}

// Same: see P1.2.
func Same(s, t []int) (bool, api.Errno) {
	if e := validateBoth(s, t); e != api.OK {
		return false, e
	}
	return same(s, t), api.OK
}

func same(s, t []int) bool {
	return slices.Equal(root(s), root(t))
}

// Alike: see P1.2.
func Alike(s, t []int) (bool, api.Errno) {
	if e := validateBoth(s, t); e != api.OK {
		return false, e
	}
	return alike(s, t), api.OK
}

func alike(s, t []int) bool {
	return slices.Equal(name(s), name(t))
}
