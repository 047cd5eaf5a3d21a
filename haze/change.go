package haze

import (
	"slices"

	"diaphone/api"
)

// Turn: see P2.5.
func Turn(h []api.Reading) ([]api.Reading, api.Errno) {
	if e := Validate(h); e != api.OK {
		return nil, e
	}
	return turn(h), api.OK
}

func turn(h []api.Reading) []api.Reading {
	out := slices.Clone(h)
	slices.Reverse(out)
	return out
}

// Raise: see P2.5.
func Raise(h []api.Reading, hour, by int) ([]api.Reading, api.Errno) {
	if e := validateHours(h, hour); e != api.OK {
		return nil, e
	}
	return raise(h, hour, hour, by)
}

// RaiseAll: see P2.5.
func RaiseAll(h []api.Reading, by int) ([]api.Reading, api.Errno) {
	if e := Validate(h); e != api.OK {
		return nil, e
	}
	return raise(h, 0, len(h)-1, by)
}

func raise(h []api.Reading, from, to, by int) ([]api.Reading, api.Errno) {
	// Refused first, since a Value plus by may be more than an int holds.
	if by < -api.MaxValue || by > api.MaxValue {
		return nil, api.ErrArg
	}
	out := slices.Clone(h)
	for i := from; i <= to; i++ {
		out[i].Value += by
	}
	if Validate(out) != api.OK {
		return nil, api.ErrArg
	}
	return out, api.OK
}

// Opposite: see P2.5.
func Opposite(h []api.Reading) ([]api.Reading, api.Errno) {
	if e := Validate(h); e != api.OK {
		return nil, e
	}
	out := slices.Clone(h)
	for i := range out {
		out[i].Value = api.MaxValue - out[i].Value
	}
	return out, api.OK
}

// Pool: see P2.6.
func Pool(h []api.Reading, hour int) ([]api.Reading, api.Errno) {
	if e := validateHours(h, hour); e != api.OK {
		return nil, e
	}
	next := hour + 1
	if next == len(h) {
		return nil, api.ErrNone
	}
	if h[hour].Value >= h[next].Value {
		return nil, api.ErrRule
	}
	m := lowest(mean(h[hour : next+1]))
	if m.Den != 1 {
		return nil, api.ErrArg
	}
	out := slices.Clone(h)
	out[hour].Value, out[next].Value = m.Num, m.Num
	return out, api.OK
}

// Begin: see P2.6.
func Begin(h []api.Reading, hours int) ([]api.Reading, api.Errno) {
	if e := Validate(h); e != api.OK {
		return nil, e
	}
	if hours < 1 || hours > len(h) {
		return nil, api.ErrArg
	}
	return slices.Clone(h[:hours]), api.OK
}
