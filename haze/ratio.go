package haze

import (
	"cmp"

	"diaphone/api"
)

// A ratio need not be in lowest terms, unlike an api.Rat: so the means of two runs of hours are joined part by part.
type ratio struct {
	Num, Den int
}

// mean returns the sum of Weight times Value over the sum of the Weights.
func mean(h []api.Reading) ratio {
	var m ratio
	for _, r := range h {
		m = join(m, ratio{Num: r.Weight * r.Value, Den: r.Weight})
	}
	return m
}

func join(a, b ratio) ratio {
	return ratio{Num: a.Num + b.Num, Den: a.Den + b.Den}
}

// quotient is what means are compared as, whether in lowest terms or not.
type quotient interface {
	~struct{ Num, Den int }
}

func compare[A, B quotient](a A, b B) int {
	x, y := api.Rat(a), api.Rat(b)
	return cmp.Compare(x.Num*y.Den, y.Num*x.Den)
}

func lowest(q ratio) api.Rat {
	d := measure(q.Num, q.Den)
	return api.Rat{Num: q.Num / d, Den: q.Den / d}
}

// measure returns the greatest common divisor of a, which is at least 0, and b, which is above 0.
func measure(a, b int) int {
	for a != 0 {
		a, b = b%a, a
	}
	return b
}

func sum(a, b api.Rat) api.Rat {
	return lowest(ratio{Num: a.Num*b.Den + b.Num*a.Den, Den: a.Den * b.Den})
}
