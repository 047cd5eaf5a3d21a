package charge

import (
	"slices"

	"diaphone/api"
)

// none stands where there is no amount, or no number of cartridges of it.
const none = -1

// amounts has, for each amount from 0 on, the smallest number of cartridges that make it up.
type amounts struct {
	weights []int
	fewest  []int
}

// amountsTo finds the amounts up to some one in ascending order, since each is found by the smaller ones.
func amountsTo(upTo int, w []int) amounts {
	a := amounts{weights: w, fewest: []int{0}}
next:
	if amount := len(a.fewest); amount <= upTo {
		n := a.oneMore(amount)
		a.fewest = append(a.fewest, n)
		goto next
	}
	return a
}

// oneMore returns the smallest number of cartridges for the amount that comes next.
func (a amounts) oneMore(amount int) int {
	smallest := none
	for _, weight := range a.weights {
		if weight > amount || a.isGap(amount-weight) {
			continue
		}
		if n := a.fewest[amount-weight] + 1; smallest == none || n < smallest {
			smallest = n
		}
	}
	return smallest
}

func (a amounts) isGap(amount int) bool {
	return a.fewest[amount] == none
}

func (a amounts) isMadeUp(amount int) bool {
	return !a.isGap(amount)
}

// last returns the place of a weight that is one of the fewest cartridges for an amount above 0 that is made up.
func (a amounts) last(amount int) int {
	return slices.IndexFunc(a.weights, func(weight int) bool {
		return weight <= amount && a.fewest[amount-weight] == a.fewest[amount]-1
	})
}

// those returns the amounts up to some one for which the answer is yes.
func those(upTo int, ask func(amount int) bool) []int {
	var out []int
	for amount := range upTo + 1 {
		if ask(amount) {
			out = append(out, amount)
		}
	}
	return out
}

// Can: see P7.2.
func Can(w []int, amount int) (bool, api.Errno) {
	if e := validateAmount(w, amount); e != api.OK {
		return false, e
	}
	return amountsTo(amount, w).isMadeUp(amount), api.OK
}

// Fewest: see P7.2.
func Fewest(w []int, amount int) (int, bool, api.Errno) {
	if e := validateAmount(w, amount); e != api.OK {
		return 0, false, e
	}
	a := amountsTo(amount, w)
	if a.isGap(amount) {
		return 0, false, api.OK
	}
	return a.fewest[amount], true, api.OK
}

// Fire: see P7.2.
func Fire(w []int, amount int) ([]int, bool, api.Errno) {
	if e := validateAmount(w, amount); e != api.OK {
		return nil, false, e
	}
	a := amountsTo(amount, w)
	if a.isGap(amount) {
		return nil, false, api.OK
	}
	counts := make([]int, len(w))
	for left := amount; left > 0; {
		i := a.last(left)
		counts[i]++
		left -= w[i]
	}
	return counts, true, api.OK
}

// Ways: see P7.2.
func Ways(w []int, amount int) (int, api.Errno) {
	if e := validateAmount(w, amount); e != api.OK {
		return 0, e
	}
	if amount > api.MaxCount {
		return 0, api.ErrLarge
	}
	ways := make([]int, amount+1)
	ways[0] = 1
	for _, weight := range w {
		// In ascending order, so that a weight may come again.
		for sum := weight; sum <= amount; sum++ {
			ways[sum] += ways[sum-weight]
		}
	}
	return ways[amount], api.OK
}

// Greedy: see P7.2.
func Greedy(w []int, amount int) ([]int, bool, api.Errno) {
	if e := validateAmount(w, amount); e != api.OK {
		return nil, false, e
	}
	counts := make([]int, len(w))
	left := amount
	for i := len(w) - 1; i >= 0; i-- {
		counts[i] = left / w[i]
		left %= w[i]
	}
	if left > 0 {
		return nil, false, api.OK
	}
	return counts, true, api.OK
}
