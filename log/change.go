package log

import (
	"slices"

	"diaphone/api"
)

// Back: see P6.5.
func Back(l []int) ([]int, api.Errno) {
	if e := Validate(l); e != api.OK {
		return nil, e
	}
	out := slices.Clone(l)
	slices.Reverse(out)
	return out, api.OK
}

// Swap: see P6.5.
func Swap(l, m []int, c api.Costs) ([]int, []int, api.Costs, api.Errno) {
	if e := validateAll(l, m, c); e != api.OK {
		return nil, nil, api.Costs{}, e
	}
	c.Out, c.In = c.In, c.Out
	return slices.Clone(m), slices.Clone(l), c, api.OK
}

// Rename: see P6.5.
func Rename(l []int, to []int) ([]int, api.Errno) {
	if e := Validate(l); e != api.OK {
		return nil, e
	}
	if len(to) != api.MaxSign+1 {
		return nil, api.ErrArg
	}
	for sign := range to {
		if !slices.Contains(to, sign) {
			return nil, api.ErrArg
		}
	}
	out := slices.Clone(l)
	for i, sign := range l {
		out[i] = to[sign]
	}
	return out, api.OK
}

// Insert: see P6.5.
func Insert(l []int, at, sign int) ([]int, api.Errno) {
	if e := Validate(l); e != api.OK {
		return nil, e
	}
	if at < 0 || at > len(l) || !isSign(sign) {
		return nil, api.ErrArg
	}
	if len(l) == api.MaxLog {
		return nil, api.ErrLarge
	}
	return slices.Insert(slices.Clone(l), at, sign), api.OK
}
