package log

import (
	"math"
	"math/bits"
	"slices"
	"testing"

	"diaphone/api"
)

// logsOf returns all logs of at most so many signs, with signs below the given number.
func logsOf(length, signs int) [][]int {
	out := [][]int{nil}
	for from := 0; len(out[from]) < length; from++ {
		for sign := range signs {
			out = append(out, append(slices.Clone(out[from]), sign))
		}
	}
	return out
}

// costsOf returns all costs of these numbers.
func costsOf(numbers ...int) []api.Costs {
	var out []api.Costs
	for _, x := range numbers {
		for _, y := range numbers {
			for _, z := range numbers {
				out = append(out, api.Costs{Out: x, In: y, Change: z})
			}
		}
	}
	return out
}

// A trial is what is compared.
type trial struct {
	l, m []int
	c    api.Costs
}

// someTrials returns trials with logs of all lengths, the same ones each time; some have few signs, and some have the second log from the first one.
func someTrials(count int) []trial {
	state := uint32(1)
	upTo := func(n int) int {
		state = state*1664525 + 1013904223
		return int(state>>16) % (n + 1)
	}
	signs := func(greatest int) []int {
		var l []int
		for range upTo(api.MaxLog) {
			l = append(l, upTo(greatest))
		}
		return l
	}
	var out []trial
	for i := range count {
		greatest := []int{api.MaxSign, 1, 2}[i%3]
		x := trial{l: signs(greatest), m: signs(greatest)}
		if i%4 == 0 {
			x.m = nil
			for _, sign := range x.l {
				if upTo(3) > 0 {
					x.m = append(x.m, sign)
				}
			}
		}
		dear := []int{api.MaxEdit - 1, 2}[i%2]
		x.c = api.Costs{Out: 1 + upTo(dear), In: 1 + upTo(dear), Change: 1 + upTo(dear)}
		out = append(out, x)
	}
	return out
}

// edgeTrials returns the trials with as many signs and as high costs as there may be.
func edgeTrials() []trial {
	zeros, fives := make([]int, 10), slices.Repeat([]int{5}, 10)
	dear, cheap, shift := api.Costs{Out: 9, In: 9, Change: 9}, api.Costs{Out: 1, In: 1, Change: 1}, api.Costs{Out: 1, In: 1, Change: 9}
	rising := []int{0, 1, 2, 3, 4, 5, 0, 1, 2, 3}
	var out []trial
	for _, c := range []api.Costs{dear, cheap, shift, {Out: 9, In: 1, Change: 5}, {Out: 1, In: 9, Change: 5}, {Out: 1, In: 1, Change: 2}} {
		out = append(out, trial{zeros, fives, c}, trial{zeros, zeros, c}, trial{fives, nil, c}, trial{nil, fives, c}, trial{nil, nil, c}, trial{rising, rising[1:], c}, trial{rising, fives, c})
	}
	return out
}

// smallTrials returns all pairs of small logs, with many costs.
func smallTrials() []trial {
	var out []trial
	costs := costsOf(1, 2, 5)
	for i, l := range logsOf(3, 3) {
		for k, m := range logsOf(3, 3) {
			out = append(out, trial{l, m, costs[(i*7+k)%len(costs)]}, trial{l, m, costs[(i+k*5+3)%len(costs)]})
		}
	}
	for _, l := range logsOf(2, 2) {
		for _, m := range logsOf(2, 2) {
			for _, c := range costsOf(1, 2, 3, 9) {
				out = append(out, trial{l, m, c})
			}
		}
	}
	return out
}

func trials() []trial {
	return append(append(smallTrials(), someTrials(60)...), edgeTrials()...)
}

// refused is an argument that is not as it should be, and the error.
type refused struct {
	l    []int
	want api.Errno
}

func invalid() []refused {
	out := []refused{
		{make([]int, 11), api.ErrLarge}, {make([]int, 100), api.ErrLarge},
		// Also if no sign is right.
		{slices.Repeat([]int{-1}, 11), api.ErrLarge}, {slices.Repeat([]int{6}, 12), api.ErrLarge},
	}
	for _, sign := range []int{-1, 6, 7, math.MinInt, math.MaxInt} {
		last := make([]int, 10)
		last[9] = sign
		out = append(out, refused{[]int{sign}, api.ErrArg}, refused{[]int{0, sign, 5}, api.ErrArg}, refused{last, api.ErrArg})
	}
	return out
}

func invalidCosts() []api.Costs {
	var out []api.Costs
	for _, n := range []int{0, -1, 10, math.MinInt, math.MaxInt} {
		out = append(out, api.Costs{Out: n, In: 1, Change: 1}, api.Costs{Out: 1, In: n, Change: 1}, api.Costs{Out: 1, In: 1, Change: n}, api.Costs{Out: n, In: n, Change: n})
	}
	return append(out, api.Costs{})
}

func wantRefused(t *testing.T, what string, zero bool, got, want api.Errno) {
	t.Helper()
	if got != want || !zero {
		t.Errorf("%s: error %v (other results zero: %v), want %v", what, got, zero, want)
	}
}

func wantNumber(t *testing.T, what string, got int, e api.Errno, want int) {
	t.Helper()
	if got != want || e != api.OK {
		t.Errorf("%s: %v %v, want %v", what, got, e, want)
	}
}

func wantList(t *testing.T, what string, got []int, e api.Errno, want ...int) {
	t.Helper()
	if !slices.Equal(got, want) || e != api.OK {
		t.Errorf("%s: %v %v, want %v", what, got, e, want)
	}
}

// comparisons visits all comparisons of logs with so many signs: of each as many places, the first ones paired, and so on.
func comparisons(a, b int, visit func(pairs []api.Pair)) {
	for x := range 1 << a {
		for y := range 1 << b {
			if bits.OnesCount(uint(x)) == bits.OnesCount(uint(y)) {
				visit(pairsOf(x, y))
			}
		}
	}
}

func pairsOf(x, y int) []api.Pair {
	var out []api.Pair
	for x != 0 {
		out = append(out, api.Pair{A: bits.TrailingZeros(uint(x)), B: bits.TrailingZeros(uint(y))})
		x, y = x&(x-1), y&(y-1)
	}
	return out
}

// plainCost looks at each sign for the pair that it is in.
func plainCost(x trial, pairs []api.Pair) int {
	sum := 0
	for place := range x.l {
		at := slices.IndexFunc(pairs, func(p api.Pair) bool { return p.A == place })
		if at < 0 {
			sum += x.c.Out
		} else if x.l[place] != x.m[pairs[at].B] {
			sum += x.c.Change
		}
	}
	for place := range x.m {
		if !slices.ContainsFunc(pairs, func(p api.Pair) bool { return p.B == place }) {
			sum += x.c.In
		}
	}
	return sum
}

// plainLeast returns the smallest cost of a comparison, and how many have it.
func plainLeast(x trial) (int, int) {
	least, count := math.MaxInt, 0
	comparisons(len(x.l), len(x.m), func(pairs []api.Pair) {
		n := plainCost(x, pairs)
		if n < least {
			least, count = n, 0
		}
		if n == least {
			count++
		}
	})
	return least, count
}

// plainDistance goes through all comparisons from their first signs on.
func plainDistance(l, m []int, c api.Costs) int {
	if len(l) == 0 {
		return len(m) * c.In
	}
	if len(m) == 0 {
		return len(l) * c.Out
	}
	change := c.Change
	if l[0] == m[0] {
		change = 0
	}
	return min(plainDistance(l[1:], m, c)+c.Out, plainDistance(l, m[1:], c)+c.In, plainDistance(l[1:], m[1:], c)+change)
}

func TestP61Validate(t *testing.T) {
	for _, x := range invalid() {
		if e := Validate(x.l); e != x.want {
			t.Errorf("Validate %v: %v, want %v", x.l, e, x.want)
		}
	}
	for _, x := range trials() {
		if e, f, g := Validate(x.l), Validate(x.m), ValidateCosts(x.c); e != api.OK || f != api.OK || g != api.OK {
			t.Errorf("Validate %v: %v %v %v", x, e, f, g)
		}
	}
	for sign := range 6 {
		if e := Validate([]int{sign}); e != api.OK {
			t.Errorf("Validate of the sign %v: %v", sign, e)
		}
	}
}

func TestP61ValidateCosts(t *testing.T) {
	for _, c := range invalidCosts() {
		if e := ValidateCosts(c); e != api.ErrArg {
			t.Errorf("ValidateCosts %v: %v", c, e)
		}
	}
	for _, c := range costsOf(1, 2, 3, 4, 5, 6, 7, 8, 9) {
		if e := ValidateCosts(c); e != api.OK {
			t.Errorf("ValidateCosts %v: %v", c, e)
		}
	}
}

// asked calls a function and returns its error, and whether the other results are zero.
type asked func(l, m []int, c api.Costs) (bool, api.Errno)

func number(f func(l, m []int, c api.Costs) (int, api.Errno)) asked {
	return func(l, m []int, c api.Costs) (bool, api.Errno) {
		n, e := f(l, m, c)
		return n == 0, e
	}
}

// askedAll are the functions that take two logs and costs; the other arguments have errors too.
func askedAll() map[string]asked {
	return map[string]asked{
		"Distance": number(Distance),
		"Count":    number(Count),
		"CheckPairs": number(func(l, m []int, c api.Costs) (int, api.Errno) {
			return CheckPairs(l, m, c, []api.Pair{{A: 0, B: 0}, {A: 0, B: 0}})
		}),
		"CheckTable": number(func(l, m []int, c api.Costs) (int, api.Errno) {
			return CheckTable(l, m, c, [][]int{{1, 0}, {0, 0}})
		}),
		"Best": func(l, m []int, c api.Costs) (bool, api.Errno) {
			pairs, e := Best(l, m, c)
			return len(pairs) == 0, e
		},
		"Table": func(l, m []int, c api.Costs) (bool, api.Errno) {
			table, e := Table(l, m, c)
			return len(table) == 0, e
		},
		"Window": func(l, m []int, c api.Costs) (bool, api.Errno) {
			from, to, e := Window(l, m, c)
			return from == 0 && to == 0, e
		},
		"Swap": func(l, m []int, c api.Costs) (bool, api.Errno) {
			a, b, d, e := Swap(l, m, c)
			return len(a) == 0 && len(b) == 0 && d == api.Costs{}, e
		},
	}
}

// askedBoth are the functions that take two logs and no costs.
func askedBoth() map[string]asked {
	return map[string]asked{
		"Common": func(l, m []int, _ api.Costs) (bool, api.Errno) {
			n, e := Common(l, m)
			return n == 0, e
		},
		"CheckCommon": func(l, m []int, _ api.Costs) (bool, api.Errno) {
			return true, CheckCommon(l, m, []int{1, 2, 3, 4, 5, 6, 7})
		},
		"Part": func(l, m []int, _ api.Costs) (bool, api.Errno) {
			part, e := Part(l, m)
			return len(part) == 0, e
		},
	}
}

// askedOne are the functions that take one log; the other arguments have errors too, where they may.
func askedOne() map[string]func([]int) ([]int, api.Errno) {
	return map[string]func([]int) ([]int, api.Errno){
		"Back":           Back,
		"Rename":         func(l []int) ([]int, api.Errno) { return Rename(l, []int{0, 1, 2, 3, 4, 5}) },
		"Rename to none": func(l []int) ([]int, api.Errno) { return Rename(l, nil) },
		"Insert":         func(l []int) ([]int, api.Errno) { return Insert(l, 0, 0) },
		"Insert at -1":   func(l []int) ([]int, api.Errno) { return Insert(l, -1, 0) },
		"Insert a 6":     func(l []int) ([]int, api.Errno) { return Insert(l, 0, 6) },
	}
}

// TestP61Errors asks every function for the errors of the logs and the costs, in the order of the arguments.
func TestP61Errors(t *testing.T) {
	one, fine := []int{1}, api.Costs{Out: 1, In: 1, Change: 1}
	for _, x := range invalid() {
		for what, f := range askedOne() {
			l, e := f(x.l)
			wantRefused(t, what, len(l) == 0, e, x.want)
		}
		for _, both := range []map[string]asked{askedAll(), askedBoth()} {
			for what, f := range both {
				for _, c := range append(invalidCosts(), fine) {
					zero, e := f(x.l, one, c)
					wantRefused(t, what, zero, e, x.want)
					zero, e = f(one, x.l, c)
					wantRefused(t, what, zero, e, x.want)
					zero, e = f(nil, x.l, c)
					wantRefused(t, what, zero, e, x.want)
					for _, y := range invalid() {
						zero, e = f(x.l, y.l, c)
						wantRefused(t, what, zero, e, x.want)
					}
				}
			}
		}
	}
	for what, f := range askedAll() {
		for _, c := range invalidCosts() {
			zero, e := f(one, one, c)
			wantRefused(t, what, zero, e, api.ErrArg)
			zero, e = f(nil, nil, c)
			wantRefused(t, what, zero, e, api.ErrArg)
		}
	}
}

// TestP61Comparisons holds CheckPairs against all comparisons, and what is the best of them against what the functions say.
func TestP61Comparisons(t *testing.T) {
	for i, x := range trials() {
		least, count := plainLeast(x)
		n, e := Distance(x.l, x.m, x.c)
		wantNumber(t, "Distance", n, e, least)
		n, e = Count(x.l, x.m, x.c)
		wantNumber(t, "Count", n, e, count)
		best, e := Best(x.l, x.m, x.c)
		wantNumber(t, "Best", plainCost(x, best), e, least)
		n, e = CheckPairs(x.l, x.m, x.c, best)
		wantNumber(t, "CheckPairs of Best", n, e, least)
		if len(x.l)+len(x.m) > 6 && i%10 > 0 {
			continue
		}
		comparisons(len(x.l), len(x.m), func(pairs []api.Pair) {
			n, e := CheckPairs(x.l, x.m, x.c, pairs)
			wantNumber(t, "CheckPairs", n, e, plainCost(x, pairs))
		})
		if t.Failed() {
			t.Fatalf("with %v", x)
		}
	}
}

// plainRefusal judges pairs by their definition.
func plainRefusal(a, b int, pairs []api.Pair) api.Errno {
	for _, p := range pairs {
		if p.A < 0 || p.A >= a || p.B < 0 || p.B >= b {
			return api.ErrArg
		}
	}
	for i := range pairs {
		for k := range i {
			if pairs[k].A >= pairs[i].A || pairs[k].B >= pairs[i].B {
				return api.ErrRule
			}
		}
	}
	return api.OK
}

// TestP61AllPairs tells the comparisons from all other lists of few pairs.
func TestP61AllPairs(t *testing.T) {
	var all []api.Pair
	for a := -1; a <= 3; a++ {
		for b := -1; b <= 2; b++ {
			all = append(all, api.Pair{A: a, B: b})
		}
	}
	x := trial{[]int{1, 2, 3}, []int{1, 3}, api.Costs{Out: 1, In: 2, Change: 4}}
	try := func(pairs ...api.Pair) {
		want := plainRefusal(3, 2, pairs)
		n, e := CheckPairs(x.l, x.m, x.c, pairs)
		if want == api.OK {
			wantNumber(t, "CheckPairs", n, e, plainCost(x, pairs))
		} else {
			wantRefused(t, "CheckPairs", n == 0, e, want)
		}
		if t.Failed() {
			t.Fatalf("with %v", pairs)
		}
	}
	for _, p := range all {
		try(p)
		for _, q := range all {
			try(p, q)
			for _, r := range all {
				try(p, q, r)
			}
		}
	}
	for _, far := range []int{math.MinInt, math.MaxInt, 10} {
		try(api.Pair{A: far, B: 0})
		try(api.Pair{A: 0, B: far})
		// The whole list is examined for ErrArg before it is judged.
		try(api.Pair{A: 1, B: 1}, api.Pair{A: 0, B: 0}, api.Pair{A: 2, B: far})
	}
	n, e := CheckPairs(nil, nil, x.c, []api.Pair{{}})
	wantRefused(t, "CheckPairs of no signs", n == 0, e, api.ErrArg)
	n, e = CheckPairs(x.l, nil, x.c, []api.Pair{{}})
	wantRefused(t, "CheckPairs of no second sign", n == 0, e, api.ErrArg)
}

func TestP61Examples(t *testing.T) {
	c := api.Costs{Out: 1, In: 1, Change: 1}
	n, e := Distance([]int{1, 2, 3}, []int{1, 3}, c)
	wantNumber(t, "example 1", n, e, 1)
	pairs, e := Best([]int{1, 2, 3}, []int{1, 3}, c)
	if !slices.Equal(pairs, []api.Pair{{A: 0, B: 0}, {A: 2, B: 1}}) || e != api.OK {
		t.Errorf("example 1: Best %v %v", pairs, e)
	}
	n, e = Count([]int{1, 1}, []int{1}, c)
	wantNumber(t, "example 2", n, e, 2)
	// The largest distance, and the largest count: 20 over 10 comparisons, all with the same cost.
	zeros, fives := make([]int, 10), slices.Repeat([]int{5}, 10)
	n, e = Distance(zeros, nil, api.Costs{Out: 9, In: 1, Change: 1})
	wantNumber(t, "Distance", n, e, 90)
	n, e = Count(zeros, fives, api.Costs{Out: 4, In: 5, Change: 9})
	wantNumber(t, "Count", n, e, 184756)
	n, e = Distance(zeros, fives, api.Costs{Out: 4, In: 5, Change: 9})
	wantNumber(t, "Distance", n, e, 90)
}

// TestS6Distance sees to it that distances are those of a way: 0 just for equal logs, and never shorter over a third log.
func TestS6Distance(t *testing.T) {
	logs := logsOf(3, 2)
	for _, c := range append(costsOf(1, 3), api.Costs{Out: 2, In: 2, Change: 9}, api.Costs{Out: 9, In: 1, Change: 4}) {
		far := map[[2]int]int{}
		for i, l := range logs {
			for k, m := range logs {
				n, e := Distance(l, m, c)
				wantNumber(t, "Distance", n, e, plainDistance(l, m, c))
				if (n == 0) != slices.Equal(l, m) {
					t.Errorf("%v %v %v: the distance is %v", l, m, c, n)
				}
				far[[2]int{i, k}] = n
			}
		}
		for i := range logs {
			for k := range logs {
				if c.Out == c.In && far[[2]int{i, k}] != far[[2]int{k, i}] {
					t.Errorf("%v %v %v: another distance back", logs[i], logs[k], c)
				}
				for j := range logs {
					if far[[2]int{i, k}] > far[[2]int{i, j}]+far[[2]int{j, k}] {
						t.Errorf("%v %v %v: shorter over %v", logs[i], logs[k], c, logs[j])
					}
				}
			}
		}
	}
}

// TestEqualCalls calls again what is free (R11).
func TestEqualCalls(t *testing.T) {
	for _, x := range trials() {
		a, _ := Best(x.l, x.m, x.c)
		b, _ := Best(slices.Clip(append([]int{}, x.l...)), x.m, x.c)
		if !slices.Equal(a, b) {
			t.Errorf("Best %v: %v and %v", x, a, b)
		}
	}
}

// TestEmpty sees to it that an empty slice is the same as none (R4).
func TestEmpty(t *testing.T) {
	c := api.Costs{Out: 2, In: 3, Change: 4}
	for _, l := range [][]int{nil, {}} {
		for _, m := range [][]int{nil, {}} {
			n, e := Distance(l, m, c)
			wantNumber(t, "Distance", n, e, 0)
			n, e = Count(l, m, c)
			wantNumber(t, "Count", n, e, 1)
			n, e = CheckPairs(l, m, c, []api.Pair{})
			wantNumber(t, "CheckPairs", n, e, 0)
			n, e = CheckTable(l, m, c, [][]int{{0}})
			wantNumber(t, "CheckTable", n, e, 0)
			n, e = Nearest([][]int{l}, m, c)
			wantNumber(t, "Nearest", n, e, 0)
			part, e := Part(l, m)
			wantList(t, "Part", part, e)
			if e := CheckCommon(l, m, l); e != api.OK {
				t.Errorf("CheckCommon: %v", e)
			}
			a, b, d, e := Swap(l, m, c)
			if len(a) != 0 || len(b) != 0 || d != (api.Costs{Out: 3, In: 2, Change: 4}) || e != api.OK {
				t.Errorf("Swap: %v %v %v %v", a, b, d, e)
			}
		}
		back, e := Back(l)
		wantList(t, "Back", back, e)
		more, e := Insert(l, 0, 5)
		wantList(t, "Insert", more, e, 5)
	}
}
