package echo

import (
	"math"
	"slices"
	"testing"

	"diaphone/api"
)

// plainCombined looks, for each number that there may be, for the places of which it comes, and says which error comes first.
func plainCombined(c, d []int, sign int) ([]int, api.Errno) {
	var out []int
	twice := false
	for n := -2 * api.MaxPlace; n <= 2*api.MaxPlace; n++ {
		ways := 0
		for _, q := range d {
			if slices.Contains(c, n-sign*q) {
				ways++
			}
		}
		if ways > 0 {
			out = append(out, n)
		}
		twice = twice || ways > 1
	}
	switch {
	case twice:
		return nil, api.ErrTwice
	case len(out) > api.MaxCliffs:
		return nil, api.ErrLarge
	case out[0] < -api.MaxPlace || out[len(out)-1] > api.MaxPlace || out[len(out)-1]-out[0] > api.MaxPlace:
		return nil, api.ErrArg
	}
	return out, api.OK
}

func TestP55PlusMinus(t *testing.T) {
	list := append(append(smallCliffs(), largeCliffs(60)...), edgeCliffs()...)
	seen := map[api.Errno]int{}
	for _, c := range list {
		for _, d := range list {
			plus, e := plainCombined(c, d, 1)
			got, a := Plus(c, d)
			if !slices.Equal(got, plus) || a != e {
				t.Fatalf("Plus %v %v: %v %v, want %v %v", c, d, got, a, plus, e)
			}
			minus, e := plainCombined(c, d, -1)
			got, b := Minus(c, d)
			if !slices.Equal(got, minus) || b != e {
				t.Fatalf("Minus %v %v: %v %v, want %v %v", c, d, got, b, minus, e)
			}
			seen[a]++
			seen[b]++
			// Consequence (S5).
			if (a == api.ErrTwice) != (b == api.ErrTwice) {
				t.Errorf("%v %v: Plus %v, Minus %v", c, d, a, b)
			}
			if a == api.OK && b == api.OK {
				is, e := Same(plus, minus)
				wantReport(t, "Same of Plus and Minus", is, e, true)
			}
		}
	}
	for _, e := range []api.Errno{api.OK, api.ErrTwice, api.ErrLarge, api.ErrArg} {
		if seen[e] == 0 {
			t.Errorf("no cliffs with %v", e)
		}
	}
}

func TestP55Examples(t *testing.T) {
	plus, e := Plus([]int{0, 1}, []int{0, 3})
	wantList(t, "example 2", plus, e, 0, 1, 3, 4)
	minus, e := Minus([]int{0, 1}, []int{0, 3})
	wantList(t, "example 2", minus, e, -3, -2, 0, 1)
	for _, l := range [][]int{plus, minus} {
		d, e := Delays(l)
		wantList(t, "example 2", d, e, 1, 1, 2, 3, 3, 4)
	}
	six := []int{0, 1, 2, 3, 4, 5}
	for _, x := range []struct {
		c, d        []int
		plus, minus api.Errno
	}{
		{[]int{60}, []int{1}, api.ErrArg, api.OK},
		{[]int{60}, []int{-1}, api.OK, api.ErrArg},
		{[]int{-60}, []int{-60}, api.ErrArg, api.OK},
		{[]int{-60, 0}, []int{0}, api.OK, api.OK},
		{[]int{-30, 30}, []int{0, 1}, api.ErrArg, api.ErrArg},
		{[]int{0, 1}, []int{5, 6}, api.ErrTwice, api.ErrTwice},
		// Numbers that are equal come first, also of too many that are too far.
		{[]int{59, 60}, []int{59, 60}, api.ErrTwice, api.ErrTwice},
		{six, six, api.ErrTwice, api.ErrTwice},
		{[]int{0, 10, 20, 30, 40, 60}, []int{50, 60}, api.ErrTwice, api.ErrTwice},
		// So many numbers come before those that are too far.
		{six, []int{0, 6, 12, 18, 24, 30}, api.ErrLarge, api.ErrLarge},
		{[]int{58, 59, 60}, []int{0, 10, 60}, api.ErrLarge, api.ErrLarge},
		{[]int{0, 1, 2}, []int{0, 10, 20}, api.ErrLarge, api.ErrLarge},
	} {
		l, e := Plus(x.c, x.d)
		wantRefused(t, "Plus", (len(l) == 0) == (x.plus != api.OK), e, x.plus)
		l, e = Minus(x.c, x.d)
		wantRefused(t, "Minus", (len(l) == 0) == (x.minus != api.OK), e, x.minus)
	}
}

// isCliffs takes places that are in ascending order, and not too many.
func isCliffs(c []int) bool {
	return c[0] >= -api.MaxPlace && c[len(c)-1] <= api.MaxPlace && c[len(c)-1]-c[0] <= api.MaxPlace
}

func TestP56Shift(t *testing.T) {
	for _, c := range append(append(smallCliffs()[:80], largeCliffs(60)...), edgeCliffs()...) {
		for by := -125; by <= 125; by++ {
			var want []int
			for _, place := range c {
				want = append(want, place+by)
			}
			l, e := Shift(c, by)
			if !isCliffs(want) {
				wantRefused(t, "Shift", len(l) == 0, e, api.ErrArg)
				continue
			}
			wantList(t, "Shift", l, e, want...)
			is, e := Same(c, l)
			wantReport(t, "Same as Shift", is, e, true)
			back, e := Shift(l, -by)
			wantList(t, "Shift back", back, e, c...)
		}
		for _, by := range far() {
			l, e := Shift(c, by)
			wantRefused(t, "Shift", len(l) == 0, e, api.ErrArg)
		}
	}
}

// far returns numbers with which a sum or a product may be more than an int holds.
func far() []int {
	var out []int
	for k := range 62 {
		out = append(out, math.MinInt+k, math.MaxInt-k)
	}
	for k := 8; k < 63; k++ {
		out = append(out, 1<<k, -1<<k, 1<<k+1, 1<<k-1, math.MaxInt/k, math.MinInt/k)
	}
	return out
}

func TestP56Scale(t *testing.T) {
	for _, c := range allCliffs() {
		for by := -5; by <= 130; by++ {
			var want []int
			for _, place := range c {
				want = append(want, place*by)
			}
			l, e := Scale(c, by)
			if by <= 0 || !isCliffs(want) {
				wantRefused(t, "Scale", len(l) == 0, e, api.ErrArg)
				continue
			}
			wantList(t, "Scale", l, e, want...)
			var delays []int
			for _, d := range plainDelays(c) {
				delays = append(delays, d*by)
			}
			got, e := Delays(l)
			wantList(t, "Delays of Scale", got, e, delays...)
		}
	}
	for _, by := range far() {
		for _, c := range append(largeCliffs(40), edgeCliffs()[1:]...) {
			if slices.Equal(c, []int{0}) {
				continue
			}
			l, e := Scale(c, by)
			wantRefused(t, "Scale", len(l) == 0, e, api.ErrArg)
		}
		l, e := Scale([]int{0}, by)
		if by > 0 {
			wantList(t, "Scale of 0", l, e, 0)
		} else {
			wantRefused(t, "Scale of 0", len(l) == 0, e, api.ErrArg)
		}
	}
	l, e := Scale([]int{-1, 1}, 30)
	wantList(t, "Scale", l, e, -30, 30)
	l, e = Scale([]int{0, 1}, 60)
	wantList(t, "Scale", l, e, 0, 60)
}

func TestP56With(t *testing.T) {
	var near []int
	for place := -61; place <= 61; place++ {
		near = append(near, place)
	}
	for _, c := range append(append(smallCliffs(), largeCliffs(100)...), edgeCliffs()...) {
		for _, place := range append(far(), near...) {
			var want []int
			for n := -61; n <= 61; n++ {
				if n == place || slices.Contains(c, n) {
					want = append(want, n)
				}
			}
			l, e := With(c, place)
			switch {
			case slices.Contains(c, place):
				wantRefused(t, "With", len(l) == 0, e, api.ErrTwice)
			case len(c) == api.MaxCliffs:
				wantRefused(t, "With", len(l) == 0, e, api.ErrLarge)
			case place < -60 || place > 60 || !isCliffs(want):
				wantRefused(t, "With", len(l) == 0, e, api.ErrArg)
			default:
				wantList(t, "With", l, e, want...)
				// Consequence: the delays are those of the cliffs, and the distances of the new place.
				delays := plainDelays(c)
				for _, other := range c {
					delays = append(delays, max(place-other, other-place))
				}
				slices.Sort(delays)
				got, e := Delays(l)
				wantList(t, "Delays of With", got, e, delays...)
			}
		}
	}
	l, e := With([]int{0, 5}, 3)
	wantList(t, "With", l, e, 0, 3, 5)
	l, e = With([]int{0}, -60)
	wantList(t, "With", l, e, -60, 0)
	l, e = With([]int{0, 1, 2, 3, 4, 5}, 5)
	wantRefused(t, "With one that is there", len(l) == 0, e, api.ErrTwice)
	l, e = With([]int{0, 1, 2, 3, 4, 5}, 99)
	wantRefused(t, "With one too many", len(l) == 0, e, api.ErrLarge)
}
