package air

import "diaphone/api"

// CheckPrices: see P3.4.
func CheckPrices(t api.Task, prices []int) (int, api.Errno) {
	if e := Validate(t); e != api.OK {
		return 0, e
	}
	if !isForEach(len(t.Need), prices, api.MaxPrice) {
		return 0, api.ErrArg
	}
	if !hold(t, prices) {
		return 0, api.ErrProof
	}
	worth := 0
	for _, p := range prices {
		worth += p
	}
	return worth, api.OK
}

// hold judges prices by their definition and not by plans, so that it is a check of Prices.
func hold(t api.Task, prices []int) bool {
	for hour := range len(prices) {
		if t.Need[hour] == 0 && prices[hour] > 0 || above(t, prices, hour) > t.Start {
			return false
		}
	}
	return true
}

// above returns what a start in the hour would save if each later hour paid its price.
func above(t api.Task, prices []int, start int) int {
	sum := 0
	for hour := start; hour < len(prices); hour++ {
		sum += max(0, prices[hour]-t.Need[hour]*way(t, start, hour))
	}
	return sum
}

// Prices: see P3.4.
func Prices(t api.Task) ([]int, api.Errno) {
	if e := Validate(t); e != api.OK {
		return nil, e
	}
	// Let each hour in turn have the greatest price with which they hold. It pays the rest of some start that is not after it, and every hour in between can use that start as well: one that could not has paid the rest of a cheaper one, which would be cheaper for this hour, too. So the prices up to an hour add up to the smallest cost of the hours up to it, and each is what its hour adds.
	costs := cheapest(t).costs
	prices := make([]int, len(t.Need))
	for hour := range len(prices) {
		prices[hour] = costs[hour+1] - costs[hour]
	}
	return prices, api.OK
}

// CheckBest: see P3.4.
func CheckBest(t api.Task, plan, prices []int) api.Errno {
	if e := validatePlan(t, plan); e != api.OK {
		return e
	}
	worth, e := CheckPrices(t, prices)
	if e != api.OK {
		return e
	}
	if cost(t, plan) != worth {
		return api.ErrProof
	}
	return api.OK
}
