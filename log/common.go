package log

import (
	"slices"

	"diaphone/api"
)

// Common: see P6.3.
func Common(l, m []int) (int, api.Errno) {
	if e := validateBoth(l, m); e != api.OK {
		return 0, e
	}
	return common(l, m), api.OK
}

// common uses that, where a change costs as much as leaving out and putting in, a pair of equal signs saves 2 and nothing else does.
func common(l, m []int) int {
	return (len(l) + len(m) - distance(l, m, api.Costs{Out: 1, In: 1, Change: 2})) / 2
}

// CheckCommon: see P6.3.
func CheckCommon(l, m, part []int) api.Errno {
	if e := validateBoth(l, m); e != api.OK {
		return e
	}
	if !isPart(part, l) || !isPart(part, m) {
		return api.ErrProof
	}
	return api.OK
}

func isPart(part, l []int) bool {
	found := 0
	for _, sign := range l {
		if found < len(part) && part[found] == sign {
			found++
		}
	}
	return found == len(part)
}

// Part: see P6.3.
func Part(l, m []int) ([]int, api.Errno) {
	if e := validateBoth(l, m); e != api.OK {
		return nil, e
	}
	var out []int
	for left := common(l, m); left > 0; left-- {
		// The least sign after which enough of both logs is left.
		for sign := range api.MaxSign + 1 {
			a, inL := after(l, sign)
			b, inM := after(m, sign)
			if inL && inM && common(a, b) == left-1 {
				out = append(out, sign)
				l, m = a, b
				break
			}
		}
	}
	return out, api.OK
}

// after returns what is left of a log behind the first place of a sign; false if it does not come.
func after(l []int, sign int) ([]int, bool) {
	at := slices.Index(l, sign)
	if at < 0 {
		return nil, false
	}
	return l[at+1:], true
}
