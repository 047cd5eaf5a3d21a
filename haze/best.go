package haze

import (
	"slices"

	"diaphone/api"
)

// A run is hours, from and to included, that have the same number in the best row.
type run struct {
	from, to int
	mean     ratio
}

// runs pools each hour with those before it as long as the row would not fall there; means that are equal are pooled too, so that the runs are as long as possible.
func runs(h []api.Reading) []run {
	var kept [api.MaxHours]run
	n := 0
	for i := range h {
		last := run{from: i, to: i, mean: mean(h[i : i+1])}
		for n > 0 && compare(kept[n-1].mean, last.mean) <= 0 {
			n--
			last = run{from: kept[n].from, to: i, mean: join(kept[n].mean, last.mean)}
		}
		kept[n] = last
		n++
	}
	out := make([]run, n)
	copy(out, kept[:n])
	return out
}

// Best: see P2.2.
func Best(h []api.Reading) ([]api.Rat, api.Errno) {
	if e := Validate(h); e != api.OK {
		return nil, e
	}
	return best(h), api.OK
}

func best(h []api.Reading) []api.Rat {
	out := make([]api.Rat, len(h))
	for _, r := range runs(h) {
		for i := r.from; i <= r.to; i++ {
			out[i] = lowest(r.mean)
		}
	}
	return out
}

// Blocks: see P2.2.
func Blocks(h []api.Reading) ([]api.Block, api.Errno) {
	if e := Validate(h); e != api.OK {
		return nil, e
	}
	var out []api.Block
	for _, r := range runs(h) {
		out = append(out, api.Block{From: r.from, To: r.to, Mean: lowest(r.mean)})
	}
	return out, api.OK
}

// Misfit: see P2.2.
func Misfit(h []api.Reading) (api.Rat, api.Errno) {
	if e := Validate(h); e != api.OK {
		return api.Rat{}, e
	}
	// An int holds the sums: the Weights add up to at most 108, and numbers that do have a least common multiple below 2^31.
	total := api.Rat{Num: 0, Den: 1}
	for _, r := range runs(h) {
		total = sum(total, misfit(h[r.from:r.to+1], r.mean))
	}
	return total, api.OK
}

// misfit uses that, around the mean, the squares add up to those of the Values less the square of the mean.
func misfit(h []api.Reading, m ratio) api.Rat {
	squares := 0
	for _, r := range h {
		squares += r.Weight * r.Value * r.Value
	}
	return lowest(ratio{Num: squares*m.Den - m.Num*m.Num, Den: m.Den})
}

// CheckBest: see P2.3.
func CheckBest(h []api.Reading, r api.Row) api.Errno {
	if e := Validate(h); e != api.OK {
		return e
	}
	if r.Den < 1 || r.Den > api.MaxDen || len(r.Num) != len(h) {
		return api.ErrArg
	}
	for _, n := range r.Num {
		if n < -api.MaxNum || n > api.MaxNum {
			return api.ErrArg
		}
	}
	if !proves(h, r) {
		return api.ErrProof
	}
	return api.OK
}

// proves judges a row by the sums of P2.3 and not by pooling, so that it is a check of Best.
func proves(h []api.Reading, r api.Row) bool {
	above := 0
	for i, x := range h {
		above += x.Weight * (x.Value*r.Den - r.Num[i])
		ends := i == len(h)-1
		if !ends && r.Num[i] < r.Num[i+1] {
			return false
		}
		ends = ends || r.Num[i] > r.Num[i+1]
		if above > 0 || ends && above < 0 {
			return false
		}
	}
	return true
}

// Rising: see P2.4.
func Rising(h []api.Reading) ([]api.Rat, api.Errno) {
	if e := Validate(h); e != api.OK {
		return nil, e
	}
	out := best(turn(h))
	slices.Reverse(out)
	return out, api.OK
}

// Until: see P2.4.
func Until(h []api.Reading, num, den int) (api.Mark, api.Errno) {
	if e := Validate(h); e != api.OK {
		return api.Mark{}, e
	}
	if den < 1 || den > 100 || num < 0 || num > 100*den {
		return api.Mark{}, api.ErrArg
	}
	limit := ratio{Num: num, Den: den}
	for i, x := range best(h) {
		if compare(x, limit) <= 0 {
			return api.Mark{Known: true, Hour: i}, api.OK
		}
	}
	return api.Mark{}, api.OK
}
