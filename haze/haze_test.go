package haze

import (
	"math"
	"math/big"
	"slices"
	"testing"

	"diaphone/api"
)

// of returns readings with the weight 1.
func of(values ...int) []api.Reading {
	var out []api.Reading
	for _, v := range values {
		out = append(out, api.Reading{Value: v, Weight: 1})
	}
	return out
}

// rat returns a fraction that is in lowest terms already.
func rat(num, den int) api.Rat {
	return api.Rat{Num: num, Den: den}
}

// hazesUpTo returns all hazes of 1 to n hours with these values and weights.
func hazesUpTo(n int, values, weights []int) [][]api.Reading {
	var out [][]api.Reading
	last := [][]api.Reading{nil}
	for range n {
		var next [][]api.Reading
		for _, h := range last {
			for _, v := range values {
				for _, w := range weights {
					next = append(next, append(slices.Clone(h), api.Reading{Value: v, Weight: w}))
				}
			}
		}
		out = append(out, next...)
		last = next
	}
	return out
}

func smallHazes() [][]api.Reading {
	return hazesUpTo(4, []int{0, 1, 3}, []int{1, 2})
}

// largeHazes returns hazes of many hours, the same ones each time.
func largeHazes(count int) [][]api.Reading {
	state := uint32(1)
	below := func(n int) int {
		state = state*1664525 + 1013904223
		return int(state>>16) % n
	}
	out := make([][]api.Reading, count)
	for i := range out {
		values, weights := 1+below(api.MaxValue+1), 1+below(api.MaxWeight)
		for range api.MaxHours - i%4 {
			out[i] = append(out[i], api.Reading{Value: below(values), Weight: 1 + below(weights)})
		}
	}
	return out
}

// longest returns as many readings as there may be, all the same.
func longest(value, weight int) []api.Reading {
	return slices.Repeat([]api.Reading{{Value: value, Weight: weight}}, api.MaxHours)
}

// spoilt returns the longest haze with another last reading.
func spoilt(value, weight int) []api.Reading {
	h := longest(5, 1)
	h[api.MaxHours-1] = api.Reading{Value: value, Weight: weight}
	return h
}

// invalid are the arguments that are no hazes, with their errors.
var invalid = []struct {
	h []api.Reading
	e api.Errno
}{
	{nil, api.ErrLarge},
	{[]api.Reading{}, api.ErrLarge},
	{append(longest(5, 1), api.Reading{Value: 5, Weight: 1}), api.ErrLarge},
	{make([]api.Reading, api.MaxHours+1), api.ErrLarge},
	{of(-1), api.ErrArg},
	{of(api.MaxValue + 1), api.ErrArg},
	{of(3, math.MinInt, 3), api.ErrArg},
	{of(math.MaxInt, 3), api.ErrArg},
	{[]api.Reading{{Value: 1, Weight: 0}}, api.ErrArg},
	{[]api.Reading{{Value: 1, Weight: -1}}, api.ErrArg},
	{[]api.Reading{{Value: 1, Weight: api.MaxWeight + 1}}, api.ErrArg},
	{[]api.Reading{{Value: 1, Weight: math.MinInt}}, api.ErrArg},
	{[]api.Reading{{Value: 1, Weight: math.MaxInt}}, api.ErrArg},
	{spoilt(-1, 1), api.ErrArg},
	{spoilt(5, 0), api.ErrArg},
}

func wantRefused(t *testing.T, what string, zero bool, got, want api.Errno) {
	t.Helper()
	if got != want || !zero {
		t.Errorf("%s: error %v (other results zero: %v), want %v", what, got, zero, want)
	}
}

func wantRat(t *testing.T, what string, got api.Rat, e api.Errno, want api.Rat) {
	t.Helper()
	if got != want || e != api.OK {
		t.Errorf("%s: %v %v, want %v", what, got, e, want)
	}
}

func wantRats(t *testing.T, what string, got []api.Rat, e api.Errno, want []api.Rat) {
	t.Helper()
	if !slices.Equal(got, want) || e != api.OK {
		t.Errorf("%s: %v %v, want %v", what, got, e, want)
	}
}

func wantReadings(t *testing.T, what string, got []api.Reading, e api.Errno, want []api.Reading) {
	t.Helper()
	if !slices.Equal(got, want) || e != api.OK {
		t.Errorf("%s: %v %v, want %v", what, got, e, want)
	}
}

func TestP21Validate(t *testing.T) {
	for _, x := range invalid {
		if e := Validate(x.h); e != x.e {
			t.Errorf("Validate %v: %v, want %v", x.h, e, x.e)
		}
	}
	valid := append(smallHazes(), largeHazes(20)...)
	valid = append(valid, longest(0, 1), longest(api.MaxValue, api.MaxWeight))
	for _, h := range valid {
		if e := Validate(h); e != api.OK {
			t.Errorf("Validate %v: %v", h, e)
		}
	}
}

// TestP21Errors asks every function for the errors of Validate, though the other arguments have errors too.
func TestP21Errors(t *testing.T) {
	for _, x := range invalid {
		m, e := Mean(x.h, -1, -2)
		wantRefused(t, "Mean", m == api.Rat{}, e, x.e)
		m, e = Misfit(x.h)
		wantRefused(t, "Misfit", m == api.Rat{}, e, x.e)
		m, e = Highest(x.h, 99)
		wantRefused(t, "Highest", m == api.Rat{}, e, x.e)
		b, e := Blocks(x.h)
		wantRefused(t, "Blocks", len(b) == 0, e, x.e)
		wantRefused(t, "CheckBest", true, CheckBest(x.h, api.Row{}), x.e)
		is, e := IsFalling(x.h)
		wantRefused(t, "IsFalling", !is, e, x.e)
		k, e := Until(x.h, -1, 0)
		wantRefused(t, "Until", k == api.Mark{}, e, x.e)
		for _, f := range []func([]api.Reading) ([]api.Rat, api.Errno){Best, Rising} {
			l, e := f(x.h)
			wantRefused(t, "a row", len(l) == 0, e, x.e)
		}
		for i, f := range []func([]api.Reading) ([]api.Reading, api.Errno){
			Turn, Opposite,
			func(h []api.Reading) ([]api.Reading, api.Errno) { return Raise(h, -1, 101) },
			func(h []api.Reading) ([]api.Reading, api.Errno) { return RaiseAll(h, 101) },
			func(h []api.Reading) ([]api.Reading, api.Errno) { return Pool(h, -1) },
			func(h []api.Reading) ([]api.Reading, api.Errno) { return Begin(h, 0) },
		} {
			l, e := f(x.h)
			wantRefused(t, "changed readings "+string(rune('0'+i)), len(l) == 0, e, x.e)
		}
	}
}

// TestP21NoSuchHour asks the functions with hours for hours that are not there, though the other arguments have errors too.
func TestP21NoSuchHour(t *testing.T) {
	h := of(3, 1, 2)
	for _, hour := range []int{-1, 3, 4, math.MinInt, math.MaxInt} {
		for i := range h {
			m, e := Mean(h, hour, i)
			wantRefused(t, "Mean from no hour", m == api.Rat{}, e, api.ErrNone)
			m, e = Mean(h, i, hour)
			wantRefused(t, "Mean to no hour", m == api.Rat{}, e, api.ErrNone)
		}
		m, e := Highest(h, hour)
		wantRefused(t, "Highest", m == api.Rat{}, e, api.ErrNone)
		l, e := Raise(h, hour, 1)
		wantRefused(t, "Raise", len(l) == 0, e, api.ErrNone)
		l, e = Raise(h, hour, 101)
		wantRefused(t, "Raise by too much", len(l) == 0, e, api.ErrNone)
		l, e = Pool(h, hour)
		wantRefused(t, "Pool", len(l) == 0, e, api.ErrNone)
	}
}

// plainMean is the mean as exact fractions.
func plainMean(h []api.Reading) *big.Rat {
	sum, weights := new(big.Rat), new(big.Rat)
	for _, r := range h {
		weight := big.NewRat(int64(r.Weight), 1)
		weights.Add(weights, weight)
		sum.Add(sum, weight.Mul(weight, big.NewRat(int64(r.Value), 1)))
	}
	return sum.Quo(sum, weights)
}

// inApi returns the valid fraction: big.Rat keeps its parts in lowest terms.
func inApi(x *big.Rat) api.Rat {
	return api.Rat{Num: int(x.Num().Int64()), Den: int(x.Denom().Int64())}
}

func inBig(x api.Rat) *big.Rat {
	return big.NewRat(int64(x.Num), int64(x.Den))
}

func TestP22Mean(t *testing.T) {
	for _, h := range append(smallHazes(), largeHazes(20)...) {
		for from := range h {
			for to := range h {
				m, e := Mean(h, from, to)
				if from > to {
					wantRefused(t, "Mean", m == api.Rat{}, e, api.ErrArg)
					continue
				}
				wantRat(t, "Mean", m, e, inApi(plainMean(h[from:to+1])))
			}
		}
	}
	m, e := Mean(longest(0, 9), 0, 11)
	wantRat(t, "Mean 0", m, e, rat(0, 1))
	m, e = Mean(longest(api.MaxValue, api.MaxWeight), 0, 11)
	wantRat(t, "the greatest Mean", m, e, rat(api.MaxValue, 1))
	m, e = Mean([]api.Reading{{Value: 0, Weight: 9}, {Value: 1, Weight: 8}}, 0, 1)
	wantRat(t, "a weighted Mean", m, e, rat(8, 17))
}

func TestP22IsFalling(t *testing.T) {
	for _, x := range []struct {
		h    []api.Reading
		want bool
	}{
		{of(7), true},
		{of(3, 2, 1), true},
		{of(3, 3, 1, 1), true},
		{of(3, 1, 2), false},
		{of(1, 2), false},
		{of(3, 2, 1, 2), false},
		{longest(4, 2), true},
		{spoilt(6, 1), false},
		{spoilt(4, 9), true},
		// It is the Values that fall, not the Weights.
		{[]api.Reading{{Value: 1, Weight: 9}, {Value: 2, Weight: 1}}, false},
		{[]api.Reading{{Value: 2, Weight: 1}, {Value: 1, Weight: 9}}, true},
	} {
		if is, e := IsFalling(x.h); is != x.want || e != api.OK {
			t.Errorf("IsFalling %v: %v %v", x.h, is, e)
		}
	}
}

// TestMemory sees to it that no function changes its arguments or gives out a part of them (R5).
func TestMemory(t *testing.T) {
	for i, f := range []func([]api.Reading) ([]api.Reading, api.Errno){
		Turn, Opposite,
		func(h []api.Reading) ([]api.Reading, api.Errno) { return Raise(h, 0, 0) },
		func(h []api.Reading) ([]api.Reading, api.Errno) { return RaiseAll(h, 0) },
		func(h []api.Reading) ([]api.Reading, api.Errno) { return Pool(h, 1) },
		func(h []api.Reading) ([]api.Reading, api.Errno) { return Begin(h, 2) },
		func(h []api.Reading) ([]api.Reading, api.Errno) { return Begin(h, 3) },
	} {
		h := of(9, 2, 4)
		l, e := f(h)
		if e != api.OK || !slices.Equal(h, of(9, 2, 4)) {
			t.Errorf("%d: %v, the readings are %v afterwards", i, e, h)
		}
		l = l[:cap(l)]
		for k := range l {
			l[k] = api.Reading{Value: 77, Weight: 7}
		}
		if !slices.Equal(h, of(9, 2, 4)) {
			t.Errorf("%d: the result shares memory with the readings", i)
		}
	}
	h, row := of(3, 1, 2), api.Row{Den: 2, Num: []int{6, 3, 3}}
	e := CheckBest(h, row)
	Best(h)
	Rising(h)
	Blocks(h)
	Misfit(h)
	Until(h, 1, 1)
	if e != api.OK || !slices.Equal(h, of(3, 1, 2)) || !slices.Equal(row.Num, []int{6, 3, 3}) {
		t.Errorf("%v, the arguments are %v %v afterwards", e, h, row)
	}
}
