package watch

import (
	"slices"

	"diaphone/api"
)

// Covered: see P4.5.
func Covered(l []api.Shift) (int, api.Errno) {
	if e := Validate(l); e != api.OK {
		return 0, e
	}
	sum := 0
	for _, s := range spells(l) {
		sum += s.To - s.From
	}
	return sum, api.OK
}

// Spells: see P4.5.
func Spells(l []api.Shift) ([]api.Shift, api.Errno) {
	if e := Validate(l); e != api.OK {
		return nil, e
	}
	return spells(l), api.OK
}

func spells(l []api.Shift) []api.Shift {
	var out []api.Shift
	for s := range inOrder(l, numbered.compareFrom) {
		last := len(out) - 1
		if last >= 0 && s.From <= out[last].To {
			out[last].To = max(out[last].To, s.To)
		} else {
			out = append(out, api.Shift{From: s.From, To: s.To})
		}
	}
	return out
}

// Mirror: see P4.5.
func Mirror(l []api.Shift) ([]api.Shift, api.Errno) {
	if e := Validate(l); e != api.OK {
		return nil, e
	}
	out := slices.Clone(l)
	for i, s := range l {
		out[i].From, out[i].To = api.MaxTime-s.To, api.MaxTime-s.From
	}
	return out, api.OK
}

// Without: see P4.5.
func Without(l []api.Shift, i int) ([]api.Shift, api.Errno) {
	if e := validateNumbers(l, i); e != api.OK {
		return nil, e
	}
	return slices.Concat(l[:i], l[i+1:]), api.OK
}

// Stretch: see P4.5.
func Stretch(l []api.Shift, i, by int) ([]api.Shift, api.Errno) {
	if e := validateNumbers(l, i); e != api.OK {
		return nil, e
	}
	out := slices.Clone(l)
	// A sum that is more than an int holds wraps around to a number below 0, which is refused too.
	out[i].To += by
	if e := Validate(out); e != api.OK {
		return nil, e
	}
	return out, api.OK
}
