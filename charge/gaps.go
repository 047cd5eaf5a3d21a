package charge

import "diaphone/api"

// enough is above all residues, and so above all gaps if there are finitely many. For among as many cartridges as the smallest weight says there are some whose amount is a multiple of it, and without them the remainder is the same; so fewer than MaxCharge cartridges make up a residue.
const enough = api.MaxCharge * api.MaxCharge

func validateFinite(w []int) api.Errno {
	if e := Validate(w); e != api.OK {
		return e
	}
	if measure(w) != 1 {
		return api.ErrNone
	}
	return api.OK
}

// Gaps: see P7.3.
func Gaps(w []int) ([]int, api.Errno) {
	if e := validateFinite(w); e != api.OK {
		return nil, e
	}
	return gaps(w), api.OK
}

func gaps(w []int) []int {
	return those(enough, amountsTo(enough, w).isGap)
}

// Greatest: see P7.3.
func Greatest(w []int) (int, api.Errno) {
	if e := validateFinite(w); e != api.OK {
		return 0, e
	}
	return greatest(w), api.OK
}

func greatest(w []int) int {
	all := gaps(w)
	if len(all) == 0 {
		return none
	}
	return all[len(all)-1]
}

// Residues: see P7.4.
func Residues(w []int) ([]int, api.Errno) {
	if e := Validate(w); e != api.OK {
		return nil, e
	}
	a := amountsTo(enough, w)
	out := make([]int, w[0])
	for r := range out {
		out[r] = first(r, w[0], a.isMadeUp)
	}
	return out, api.OK
}

// first returns the first amount, step after step, for which the answer is yes, none if there is none up to enough.
func first(from, step int, ask func(amount int) bool) int {
	for amount := from; amount <= enough; amount += step {
		if ask(amount) {
			return amount
		}
	}
	return none
}

// IsEven: see P7.4.
func IsEven(w []int) (bool, api.Errno) {
	if e := validateFinite(w); e != api.OK {
		return false, e
	}
	last := greatest(w)
	a := amountsTo(last, w)
	for x := range last + 1 {
		if a.isMadeUp(x) == a.isMadeUp(last-x) {
			return false, api.OK
		}
	}
	return true, api.OK
}
