package charge

import (
	"slices"
	"testing"

	"diaphone/api"
)

// A range of amounts is asked for some weights.
type trial struct {
	w    []int
	upTo int
}

func trials() []trial {
	var out []trial
	for _, w := range weightsOf(8) {
		out = append(out, trial{w, 45})
	}
	for i, w := range weightsOf(30) {
		if i%150 == 0 {
			out = append(out, trial{w, 150})
		}
	}
	return append(out, trial{[]int{1, 2, 3, 4}, 200}, trial{[]int{2, 3}, 300}, trial{[]int{1, 7, 30}, 250}, trial{[]int{6, 10, 15}, 700}, trial{[]int{27, 28, 29, 30}, 900})
}

// largeTrials have few counts for all amounts, so that these are asked up to the greatest one.
func largeTrials() []trial {
	var out []trial
	for _, w := range [][]int{{1}, {30}, {7}, {1, 30}, {29, 30}, {12, 18, 30}} {
		out = append(out, trial{w, 2000})
	}
	return out
}

// A plainAmount is what is said of an amount by all counts.
type plainAmount struct {
	fewest, ways int
}

func plainAmounts(x trial) []plainAmount {
	out := make([]plainAmount, x.upTo+1)
	visitCounts(x.w, x.upTo, func(counts []int, amount int) {
		p := &out[amount]
		if n := sumOf(counts); p.ways == 0 || n < p.fewest {
			p.fewest = n
		}
		p.ways++
	})
	return out
}

// wantAmount holds what is said of an amount against all counts.
func wantAmount(t *testing.T, w []int, amount int, want plainAmount) {
	t.Helper()
	made := want.ways > 0
	is, e := Can(w, amount)
	wantBool(t, "Can", is, e, made)
	n, ok, e := Fewest(w, amount)
	wantBool(t, "Fewest", ok, e, made)
	wantNumber(t, "Fewest", n, e, want.fewest)
	counts, ok, e := Fire(w, amount)
	wantBool(t, "Fire", ok, e, made)
	if made {
		sum, e := CheckCounts(w, counts)
		wantNumber(t, "CheckCounts of Fire", sum, e, amount)
		wantNumber(t, "cartridges of Fire", sumOf(counts), e, want.fewest)
	} else if len(counts) != 0 {
		t.Errorf("Fire: %v, but the amount is not made up", counts)
	}
	n, e = Ways(w, amount)
	if amount > 200 {
		wantRefused(t, "Ways", n == 0, e, api.ErrLarge)
	} else {
		wantNumber(t, "Ways", n, e, want.ways)
	}
	wantGreedy(t, w, amount, want)
	if t.Failed() {
		t.Fatalf("with %v and the amount %v", w, amount)
	}
}

// wantGreedy asks whether too little was left for one more cartridge of each weight.
func wantGreedy(t *testing.T, w []int, amount int, want plainAmount) {
	t.Helper()
	counts, ok, e := Greedy(w, amount)
	left := amount
	for _, weight := range slices.Backward(w) {
		for left >= weight {
			left -= weight
		}
	}
	wantBool(t, "Greedy", ok, e, left == 0)
	if !ok {
		if len(counts) != 0 {
			t.Errorf("Greedy: %v, but something is left", counts)
		}
		return
	}
	sum, e := CheckCounts(w, counts)
	wantNumber(t, "CheckCounts of Greedy", sum, e, amount)
	left = amount
	for i, weight := range slices.Backward(w) {
		left -= counts[i] * weight
		if left < 0 || left >= weight {
			t.Errorf("Greedy: %v leaves %v for the weight %v", counts, left, weight)
		}
	}
	// Consequence.
	if want.ways == 0 || sumOf(counts) < want.fewest {
		t.Errorf("Greedy: %v, but the fewest are %v", counts, want.fewest)
	}
}

func TestP72Amounts(t *testing.T) {
	for _, x := range trials() {
		for amount, want := range plainAmounts(x) {
			wantAmount(t, x.w, amount, want)
		}
	}
}

func TestP72LargeAmounts(t *testing.T) {
	for _, x := range largeTrials() {
		for amount, want := range plainAmounts(x) {
			if amount < 100 || amount > 1950 || amount%50 < 3 || amount > 190 && amount < 210 {
				wantAmount(t, x.w, amount, want)
			}
		}
	}
}

func TestP72Examples(t *testing.T) {
	for _, x := range []struct {
		w            []int
		amount, want int
	}{
		{[]int{1, 3, 4}, 6, 2}, {[]int{3, 5}, 15, 3}, {[]int{3, 5}, 0, 0}, {[]int{1}, 2000, 2000}, {[]int{30}, 1980, 66}, {[]int{1, 2, 3, 4}, 2000, 500}, {[]int{1, 2, 3, 4}, 1999, 500}, {[]int{29, 30}, 2000, 67}, {[]int{1, 10, 25}, 30, 3}, {[]int{1, 30}, 2000, 86},
	} {
		n, ok, e := Fewest(x.w, x.amount)
		wantBool(t, "Fewest", ok, e, true)
		wantNumber(t, "Fewest", n, e, x.want)
	}
	for _, x := range []struct {
		w            []int
		amount, want int
	}{{[]int{3, 5}, 8, 1}, {[]int{3, 5}, 15, 2}, {[]int{3, 5}, 7, 0}, {[]int{3, 5}, 0, 1}, {[]int{1, 2}, 200, 101}, {[]int{1}, 200, 1}, {[]int{1, 2, 3}, 6, 7}} {
		n, e := Ways(x.w, x.amount)
		wantNumber(t, "Ways", n, e, x.want)
	}
	counts, ok, e := Greedy([]int{1, 3, 4}, 6)
	wantBool(t, "Greedy", ok, e, true)
	wantList(t, "Greedy", counts, e, 2, 0, 1)
	// 10 is made up, but not by 7 and then by 5.
	counts, ok, e = Greedy([]int{5, 7}, 10)
	wantBool(t, "Greedy", ok, e, false)
	wantList(t, "Greedy", counts, e)
	counts, ok, e = Greedy([]int{1}, 2000)
	wantBool(t, "Greedy", ok, e, true)
	wantList(t, "Greedy", counts, e, 2000)
	counts, ok, e = Fire([]int{7, 9}, 0)
	wantBool(t, "Fire", ok, e, true)
	wantList(t, "Fire", counts, e, 0, 0)
	counts, ok, e = Fire([]int{1}, 2000)
	wantBool(t, "Fire", ok, e, true)
	wantList(t, "Fire", counts, e, 2000)
}

func TestP72WaysErrors(t *testing.T) {
	for _, w := range edgeWeights() {
		for _, amount := range []int{201, 202, 1999, 2000} {
			n, e := Ways(w, amount)
			wantRefused(t, "Ways", n == 0, e, api.ErrLarge)
		}
		if _, e := Ways(w, 200); e != api.OK {
			t.Errorf("Ways %v 200: %v", w, e)
		}
	}
}

// TestP72Consequences asks for multiples of the measure, for sums, and for Ways of what is not made up.
func TestP72Consequences(t *testing.T) {
	for _, w := range someWeights(400) {
		by, _ := Measure(w)
		var made []int
		for amount := range 201 {
			is, e := Can(w, amount)
			ways, f := Ways(w, amount)
			if e != api.OK || f != api.OK || is != (ways > 0) || is && amount%by != 0 {
				t.Fatalf("%v: Can %v is %v, Ways %v, the measure %v", w, amount, is, ways, by)
			}
			if is && amount%3 < 2 {
				made = append(made, amount)
			}
		}
		for i, a := range made {
			sum := a + made[(i*7+3)%len(made)]
			is, e := Can(w, sum)
			wantBool(t, "Can of a sum", is, e, true)
		}
	}
}
