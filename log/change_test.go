package log

import (
	"math"
	"slices"
	"testing"

	"diaphone/api"
)

// someLogs returns small logs and others.
func someLogs() [][]int {
	out := logsOf(3, 3)
	for _, x := range append(someTrials(100), edgeTrials()...) {
		out = append(out, x.l, x.m)
	}
	return out
}

func TestP65Back(t *testing.T) {
	for _, l := range someLogs() {
		want := make([]int, len(l))
		for i, sign := range l {
			want[len(l)-1-i] = sign
		}
		back, e := Back(l)
		wantList(t, "Back", back, e, want...)
	}
	for _, x := range trials() {
		a, _ := Back(x.l)
		b, _ := Back(x.m)
		wantSameDistance(t, "Back", x, trial{a, b, x.c})
	}
}

// wantSameDistance asks for the consequence that a change changes no distance.
func wantSameDistance(t *testing.T, what string, x, changed trial) {
	t.Helper()
	n, e := Distance(x.l, x.m, x.c)
	d, f := Distance(changed.l, changed.m, changed.c)
	if n != d || e != api.OK || f != api.OK {
		t.Errorf("%s of %v: the distance is %v %v, and %v %v before", what, x, d, f, n, e)
	}
}

func TestP65Swap(t *testing.T) {
	for _, x := range trials() {
		a, b, c, e := Swap(x.l, x.m, x.c)
		if !slices.Equal(a, x.m) || !slices.Equal(b, x.l) || e != api.OK {
			t.Errorf("Swap %v: %v %v %v", x, a, b, e)
		}
		if c.Out != x.c.In || c.In != x.c.Out || c.Change != x.c.Change {
			t.Errorf("Swap %v: %v", x.c, c)
		}
		wantSameDistance(t, "Swap", x, trial{a, b, c})
	}
}

func TestP65Rename(t *testing.T) {
	names := [][]int{{0, 1, 2, 3, 4, 5}, {5, 4, 3, 2, 1, 0}, {1, 2, 3, 4, 5, 0}, {3, 0, 5, 1, 4, 2}}
	for i, x := range trials() {
		to := names[i%len(names)]
		var both [2][]int
		for k, l := range [][]int{x.l, x.m} {
			var want []int
			for _, sign := range l {
				want = append(want, to[sign])
			}
			got, e := Rename(l, to)
			wantList(t, "Rename", got, e, want...)
			both[k] = got
		}
		wantSameDistance(t, "Rename", x, trial{both[0], both[1], x.c})
	}
	for _, to := range [][]int{
		nil, {}, {0}, {0, 1, 2, 3, 4}, {1, 2, 3, 4, 5}, {0, 1, 2, 3, 4, 5, 6}, {0, 1, 2, 3, 4, 5, 5}, {6, 0, 1, 2, 3, 4, 5},
		{0, 1, 2, 3, 4, 4}, {1, 1, 2, 3, 4, 5}, {1, 2, 3, 4, 5, 6}, {-1, 0, 1, 2, 3, 4}, {0, 0, 0, 0, 0, 0}, {0, 1, 2, 3, 4, 6},
		{0, 1, 2, 3, 4, math.MaxInt}, {math.MinInt, 1, 2, 3, 4, 5}, {0, 1, 3, 3, 4, 5}, {-1, 0, 1, 2, 3, 4, 5},
	} {
		for _, l := range [][]int{nil, {0}, {1, 2, 3}} {
			got, e := Rename(l, to)
			wantRefused(t, "Rename", len(got) == 0, e, api.ErrArg)
		}
	}
}

func TestP65Insert(t *testing.T) {
	for _, l := range someLogs() {
		for at := -2; at <= 12; at++ {
			for sign := -1; sign <= 6; sign++ {
				got, e := Insert(l, at, sign)
				switch {
				case at < 0 || at > len(l) || sign < 0 || sign > 5:
					wantRefused(t, "Insert", len(got) == 0, e, api.ErrArg)
				case len(l) == 10:
					wantRefused(t, "Insert", len(got) == 0, e, api.ErrLarge)
				default:
					var want []int
					want = append(want, l[:at]...)
					want = append(want, sign)
					want = append(want, l[at:]...)
					wantList(t, "Insert", got, e, want...)
				}
			}
		}
		for _, far := range []int{math.MinInt, math.MaxInt} {
			got, e := Insert(l, far, 0)
			wantRefused(t, "Insert", len(got) == 0, e, api.ErrArg)
			got, e = Insert(l, 0, far)
			wantRefused(t, "Insert", len(got) == 0, e, api.ErrArg)
		}
	}
}

// TestP65InsertDistance sees to it that one more sign changes a distance by little.
func TestP65InsertDistance(t *testing.T) {
	for _, x := range trials() {
		before, _ := Distance(x.l, x.m, x.c)
		for at := range len(x.m) + 1 {
			m, e := Insert(x.m, at, at%6)
			if e == api.ErrLarge {
				continue
			}
			n, e := Distance(x.l, m, x.c)
			if most := max(x.c.In, x.c.Out); e != api.OK || n > before+most || n < before-most {
				t.Errorf("%v: the distance with Insert at %v is %v %v, and %v without", x, at, n, e, before)
			}
		}
	}
}
