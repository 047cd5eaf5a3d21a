package charge

import (
	"slices"

	"diaphone/api"
)

func (a amounts) isWeight(amount int) bool {
	return a.fewest[amount] == 1
}

// isSum reports whether smaller weights make up an amount above 0: what is left without one of them is smaller too.
func (a amounts) isSum(amount int) bool {
	return slices.ContainsFunc(a.weights, func(weight int) bool {
		return weight < amount && a.isMadeUp(amount-weight)
	})
}

func (a amounts) isNeedless(amount int) bool {
	return a.isWeight(amount) && a.isSum(amount)
}

func (a amounts) isNeeded(amount int) bool {
	return a.isWeight(amount) && !a.isSum(amount)
}

// Needless: see P7.5.
func Needless(w []int) ([]int, api.Errno) {
	if e := Validate(w); e != api.OK {
		return nil, e
	}
	return those(api.MaxCharge, amountsTo(api.MaxCharge, w).isNeedless), api.OK
}

// Reduce: see P7.5.
func Reduce(w []int) ([]int, api.Errno) {
	if e := Validate(w); e != api.OK {
		return nil, e
	}
	return those(api.MaxCharge, amountsTo(api.MaxCharge, w).isNeeded), api.OK
}

// Same: see P7.5.
func Same(v, w []int) (bool, api.Errno) {
	if e := Validate(v); e != api.OK {
		return false, e
	}
	if e := Validate(w); e != api.OK {
		return false, e
	}
	return makesUp(v, w) && makesUp(w, v), api.OK
}

// makesUp reports whether v makes up each weight of w, and so each amount that w makes up.
func makesUp(v, w []int) bool {
	return !slices.ContainsFunc(w, amountsTo(api.MaxCharge, v).isGap)
}

// Times: see P7.5.
func Times(w []int, by int) ([]int, api.Errno) {
	if e := Validate(w); e != api.OK {
		return nil, e
	}
	// Asked first, so that no product is too large for an int.
	if by < 1 || by > api.MaxCharge {
		return nil, api.ErrArg
	}
	out := slices.Clone(w)
	for i := range out {
		out[i] *= by
	}
	if e := Validate(out); e != api.OK {
		return nil, e
	}
	return out, api.OK
}

// With: see P7.5.
func With(w []int, weight int) ([]int, api.Errno) {
	if e := Validate(w); e != api.OK {
		return nil, e
	}
	at, found := slices.BinarySearch(w, weight)
	if found {
		return nil, api.ErrTwice
	}
	out := slices.Insert(slices.Clone(w), at, weight)
	if e := Validate(out); e != api.OK {
		return nil, e
	}
	return out, api.OK
}
