package charge

import (
	"math"
	"slices"
	"testing"

	"diaphone/api"
)

// plainNeedless splits weights by whether those before them make them up.
func plainNeedless(w []int) (needless, needed []int) {
	for i, weight := range w {
		if plainMade(w[:i], weight)[weight] {
			needless = append(needless, weight)
		} else {
			needed = append(needed, weight)
		}
	}
	return needless, needed
}

func TestP75Reduce(t *testing.T) {
	for _, w := range weightsOf(30) {
		needless, needed := plainNeedless(w)
		l, e := Needless(w)
		wantList(t, "Needless", l, e, needless...)
		l, e = Reduce(w)
		wantList(t, "Reduce", l, e, needed...)
		if t.Failed() {
			t.Fatalf("with %v", w)
		}
	}
}

func TestP75ReduceExamples(t *testing.T) {
	for _, x := range []struct{ w, needless, needed []int }{
		{[]int{3, 5, 8, 9}, []int{8, 9}, []int{3, 5}}, {[]int{1}, nil, []int{1}}, {[]int{30}, nil, []int{30}}, {[]int{1, 2, 3, 30}, []int{2, 3, 30}, []int{1}}, {[]int{27, 28, 29, 30}, nil, []int{27, 28, 29, 30}}, {[]int{15, 30}, []int{30}, []int{15}}, {[]int{3, 5, 7}, nil, []int{3, 5, 7}}, {[]int{4, 6, 8, 9}, []int{8}, []int{4, 6, 9}},
	} {
		l, e := Needless(x.w)
		wantList(t, "Needless", l, e, x.needless...)
		l, e = Reduce(x.w)
		wantList(t, "Reduce", l, e, x.needed...)
	}
}

// wantSame holds Same against all amounts up to far, and against Reduce.
func wantSame(t *testing.T, v, w []int, want bool) {
	t.Helper()
	is, e := Same(v, w)
	wantBool(t, "Same", is, e, want)
	a, _ := Reduce(v)
	b, _ := Reduce(w)
	wantBool(t, "Same by Reduce", is, e, slices.Equal(a, b))
	if t.Failed() {
		t.Fatalf("with %v and %v", v, w)
	}
}

func TestP75Same(t *testing.T) {
	var made [][]bool
	all := someWeights(150)
	for _, w := range all {
		made = append(made, plainMade(w, far))
	}
	for i, v := range all {
		for k, w := range all {
			wantSame(t, v, w, slices.Equal(made[i], made[k]))
		}
	}
}

func TestP75SameExamples(t *testing.T) {
	for _, x := range []struct {
		v, w []int
		want bool
	}{
		{[]int{3, 5, 8}, []int{3, 5, 9}, true}, {[]int{3, 5}, []int{3, 7}, false}, {[]int{3, 5}, []int{3, 5}, true}, {[]int{1}, []int{1, 17, 29, 30}, true}, {[]int{15}, []int{15, 30}, true}, {[]int{15}, []int{30}, false}, {[]int{30}, []int{15}, false}, {[]int{3, 5}, []int{3, 5, 7}, false}, {[]int{3, 5, 7}, []int{3, 5}, false}, {[]int{27, 28, 29}, []int{27, 28, 29, 30}, false}, {[]int{2, 30}, []int{2, 28}, true},
	} {
		wantSame(t, x.v, x.w, x.want)
	}
}

func TestP75Times(t *testing.T) {
	for _, w := range someWeights(40) {
		for by := -3; by <= 40; by++ {
			l, e := Times(w, by)
			if by < 1 || by*w[len(w)-1] > 30 {
				wantRefused(t, "Times", len(l) == 0, e, api.ErrArg)
				continue
			}
			var want []int
			for _, weight := range w {
				want = append(want, weight*by)
			}
			wantList(t, "Times", l, e, want...)
		}
	}
	// With some of these, a product that wraps around is a weight.
	for _, by := range []int{math.MinInt, math.MinInt + 1, math.MaxInt, 1 << 62, 1<<62 + 1, 1<<60 + 1, 1<<32 + 1, (math.MaxInt-1)/3*2 + 2, -1 << 62} {
		for _, w := range [][]int{{1}, {2}, {3}, {4}, {16}, {4, 8}, {1, 2, 3, 4}, {30}} {
			l, e := Times(w, by)
			wantRefused(t, "Times", len(l) == 0, e, api.ErrArg)
		}
	}
	l, e := Times([]int{3, 5}, 6)
	wantList(t, "Times", l, e, 18, 30)
}

func TestP75With(t *testing.T) {
	for _, w := range someWeights(40) {
		for _, weight := range []int{-1, 0, 1, 2, 3, 4, 5, 8, 15, 28, 29, 30, 31, 32, math.MinInt, math.MaxInt} {
			l, e := With(w, weight)
			switch {
			case slices.Contains(w, weight):
				wantRefused(t, "With", len(l) == 0, e, api.ErrTwice)
			case len(w) == 4:
				wantRefused(t, "With", len(l) == 0, e, api.ErrLarge)
			case weight < 1 || weight > 30:
				wantRefused(t, "With", len(l) == 0, e, api.ErrArg)
			default:
				want := append(slices.Clone(w), weight)
				slices.Sort(want)
				wantList(t, "With", l, e, want...)
			}
			if t.Failed() {
				t.Fatalf("with %v and %v", w, weight)
			}
		}
	}
}

// TestP75Consequences asks whether one more weight changes what is made up exactly if it was not made up.
func TestP75Consequences(t *testing.T) {
	for _, w := range someWeights(200) {
		for weight := 1; weight <= 30; weight++ {
			more, e := With(w, weight)
			if e != api.OK {
				continue
			}
			is, e := Can(w, weight)
			same, f := Same(w, more)
			if is != same || e != api.OK || f != api.OK {
				t.Errorf("%v with %v: Can is %v %v, Same %v %v", w, weight, is, e, same, f)
			}
		}
		// All amounts are multiplied with the weights.
		double, e := Times(w, 2)
		if e != api.OK {
			continue
		}
		for amount := range 100 {
			is, _ := Can(w, amount)
			twice, e := Can(double, 2*amount)
			wantBool(t, "Can of Times", twice, e, is)
		}
	}
}
