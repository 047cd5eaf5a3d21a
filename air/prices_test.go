package air

import (
	"math"
	"slices"
	"testing"

	"diaphone/api"
)

// plainWorth returns the worth of prices that hold, by the definition.
func plainWorth(x api.Task, prices []int) (int, bool) {
	worth := 0
	for s, p := range prices {
		worth += p
		if x.Need[s] == 0 && p != 0 {
			return 0, false
		}
		sum := 0
		for t := s; t < len(prices); t++ {
			if over := prices[t] - x.Need[t]*(x.Cost[s]+x.Keep*(t-s)); over > 0 {
				sum += over
			}
		}
		if sum > x.Start {
			return 0, false
		}
	}
	return worth, true
}

// listsOf returns all lists of n numbers from 0 to the greatest.
func listsOf(n, greatest int) [][]int {
	out := [][]int{nil}
	for range n {
		var next [][]int
		for _, l := range out {
			for x := range greatest + 1 {
				next = append(next, append(slices.Clone(l), x))
			}
		}
		out = next
	}
	return out
}

// TestP34AllPrices holds CheckPrices against all prices of small tasks; none that hold are worth more than Least, and some are worth as much (S3).
func TestP34AllPrices(t *testing.T) {
	lists := [][][]int{nil, listsOf(1, 12), listsOf(2, 12), listsOf(3, 8)}
	for hours := 1; hours <= 3; hours++ {
		for _, x := range tasksOf(hours, []int{0, 1, 4}, []int{0, 1}, []int{0, 1}, []int{0, 1, 2}) {
			greatest := 0
			for _, prices := range lists[hours] {
				worth, ok := plainWorth(x, prices)
				n, e := CheckPrices(x, prices)
				if !ok {
					wantRefused(t, "CheckPrices", n == 0, e, api.ErrProof)
					continue
				}
				wantNumber(t, "CheckPrices", n, e, worth)
				greatest = max(greatest, worth)
			}
			n, e := Least(x)
			wantNumber(t, "Least", n, e, greatest)
		}
	}
}

func TestP34Prices(t *testing.T) {
	tasks := append(smallTasks(), largeTasks(500)...)
	tasks = append(tasks, greatest(), longest(0, 0, 0, 0), longest(api.MaxStart, 0, 0, api.MaxNeed), longest(0, 20, 20, 50))
	for _, x := range tasks {
		l, e := Prices(x)
		least, _ := Least(x)
		if e != api.OK || len(l) != len(x.Need) || slices.Min(l) < 0 || slices.Max(l) > api.MaxPrice {
			t.Fatalf("Prices %v: %v %v", x, l, e)
		}
		if worth, ok := plainWorth(x, l); !ok || worth != least {
			t.Errorf("Prices %v: %v are worth %v (they hold: %v), want %v", x, l, worth, ok, least)
		}
		n, e := CheckPrices(x, l)
		wantNumber(t, "CheckPrices of Prices", n, e, least)
		plan, _ := Best(x)
		wantRefused(t, "CheckBest of Best and Prices", true, CheckBest(x, plan, l), api.OK)
		for hour := range l {
			l[hour]++
			n, e := CheckPrices(x, l)
			wantRefused(t, "CheckPrices of higher prices", n == 0, e, api.ErrProof)
			wantRefused(t, "CheckBest with higher prices", true, CheckBest(x, plan, l), api.ErrProof)
			l[hour]--
		}
	}
}

func TestP34PriceErrors(t *testing.T) {
	for _, x := range []struct {
		prices []int
		worth  int
		want   api.Errno
	}{
		{[]int{5, 10}, 15, api.OK},
		{[]int{10, 5}, 15, api.OK},
		{[]int{0, 0}, 0, api.OK},
		{[]int{0, 10}, 10, api.OK},
		{[]int{0, 11}, 0, api.ErrProof},
		{[]int{10, 6}, 0, api.ErrProof},
		{[]int{6, 10}, 0, api.ErrProof},
		{[]int{11, 0}, 0, api.ErrProof},
		{[]int{api.MaxPrice, api.MaxPrice}, 0, api.ErrProof},
		{nil, 0, api.ErrArg},
		{[]int{5}, 0, api.ErrArg},
		{[]int{5, 10, 0}, 0, api.ErrArg},
		{[]int{-1, 5}, 0, api.ErrArg},
		{[]int{5, -1}, 0, api.ErrArg},
		{[]int{api.MaxPrice + 1, 0}, 0, api.ErrArg},
		{[]int{math.MaxInt, math.MaxInt}, 0, api.ErrArg},
		{[]int{0, math.MinInt}, 0, api.ErrArg},
		// All prices are examined for ErrArg before they are judged.
		{[]int{11, -1}, 0, api.ErrArg},
		{[]int{11, api.MaxPrice + 1}, 0, api.ErrArg},
	} {
		n, e := CheckPrices(two(), x.prices)
		if n != x.worth || e != x.want {
			t.Errorf("CheckPrices %v: %v %v, want %v %v", x.prices, n, e, x.worth, x.want)
		}
		if want := x.want; want != api.OK {
			wantRefused(t, "CheckBest", true, CheckBest(two(), []int{10, 0}, x.prices), want)
		}
	}
	// An hour without need has no price, though a start could pay for it.
	n, e := CheckPrices(task(10, 1, 0, 0, 0, 5), []int{1, 5})
	wantRefused(t, "a price without need", n == 0, e, api.ErrProof)
	n, e = CheckPrices(task(10, 1, 0, 5, 0, 0), []int{5, 1})
	wantRefused(t, "a last price without need", n == 0, e, api.ErrProof)
	n, e = CheckPrices(task(10, 1, 0, 0, 0, 5), []int{0, 10})
	wantNumber(t, "no price without need", n, e, 10)
}

func TestP34CheckBest(t *testing.T) {
	for _, x := range []struct {
		plan, prices []int
		want         api.Errno
	}{
		{[]int{10, 0}, []int{5, 10}, api.OK},
		{[]int{10, 0}, []int{10, 5}, api.OK},
		{[]int{5, 5}, []int{5, 10}, api.ErrProof},
		{[]int{10, 0}, []int{5, 9}, api.ErrProof},
		{[]int{10, 0}, []int{0, 0}, api.ErrProof},
		// The worth is the cost, but the prices do not hold.
		{[]int{10, 0}, []int{15, 0}, api.ErrProof},
		{[]int{5, 5}, []int{10, 10}, api.ErrProof},
		// The errors of the plan come first.
		{[]int{10}, nil, api.ErrArg},
		{[]int{4, 6}, nil, api.ErrRule},
		{[]int{4, 6}, []int{10, 6}, api.ErrRule},
		{[]int{10, 0}, nil, api.ErrArg},
		{[]int{5, 5}, []int{-1, 0}, api.ErrArg},
	} {
		if e := CheckBest(two(), x.plan, x.prices); e != x.want {
			t.Errorf("CheckBest %v %v: %v, want %v", x.plan, x.prices, e, x.want)
		}
	}
	none := longest(10, 1, 1, 0)
	wantRefused(t, "CheckBest of nothing", true, CheckBest(none, make([]int, 12), make([]int, 12)), api.OK)
}

// TestP34CheckBestOfAllPlans: with the best prices, just the best plans are proved.
func TestP34CheckBestOfAllPlans(t *testing.T) {
	for _, x := range smallTasks() {
		prices, _ := Prices(x)
		least, _ := Least(x)
		for _, plan := range plainPlans(x) {
			want := api.ErrProof
			if plainCost(x, plan) == least {
				want = api.OK
			}
			if e := CheckBest(x, plan, prices); e != want {
				t.Errorf("CheckBest %v %v %v: %v, want %v", x, plan, prices, e, want)
			}
		}
	}
}
