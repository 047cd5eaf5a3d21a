package log

import (
	"math"
	"slices"
	"testing"

	"diaphone/api"
)

// plainIsPart looks for a place of each sign behind those before.
func plainIsPart(part, l []int) bool {
	if len(part) == 0 {
		return true
	}
	for place, sign := range l {
		if sign == part[0] && plainIsPart(part[1:], l[place+1:]) {
			return true
		}
	}
	return false
}

// plainPart goes through all parts of the first log.
func plainPart(l, m []int) []int {
	var best []int
	for places := range 1 << len(l) {
		var part []int
		for k, sign := range l {
			if places>>k&1 == 1 {
				part = append(part, sign)
			}
		}
		longer := len(part) > len(best) || len(part) == len(best) && slices.Compare(part, best) < 0
		if longer && plainIsPart(part, m) {
			best = part
		}
	}
	return best
}

func wantPart(t *testing.T, l, m []int) {
	t.Helper()
	want := plainPart(l, m)
	n, e := Common(l, m)
	wantNumber(t, "Common", n, e, len(want))
	part, e := Part(l, m)
	wantList(t, "Part", part, e, want...)
	if e := CheckCommon(l, m, part); e != api.OK {
		t.Errorf("CheckCommon %v %v %v: %v", l, m, part, e)
	}
	d, e := Distance(l, m, api.Costs{Out: 1, In: 1, Change: 2})
	wantNumber(t, "Distance by Common", d, e, len(l)+len(m)-2*n)
	if t.Failed() {
		t.Fatalf("with %v %v", l, m)
	}
}

func TestP63Part(t *testing.T) {
	for _, l := range logsOf(4, 3) {
		for _, m := range logsOf(4, 3) {
			wantPart(t, l, m)
		}
	}
	for _, x := range append(someTrials(600), edgeTrials()...) {
		wantPart(t, x.l, x.m)
	}
}

func TestP63PartExamples(t *testing.T) {
	for _, x := range []struct{ l, m, want []int }{
		{[]int{1, 2}, []int{2, 1}, []int{1}},
		{[]int{5, 4, 3, 2, 1, 0}, []int{0, 1, 2, 3, 4, 5}, []int{0}},
		{[]int{0, 1, 5, 4, 2}, []int{5, 4, 0, 2, 1}, []int{5, 4, 2}},
		{[]int{5, 0, 5, 0}, []int{0, 5, 0, 5}, []int{0, 5, 0}},
		{[]int{3}, []int{4}, nil},
		{slices.Repeat([]int{5}, 10), slices.Repeat([]int{5}, 10), slices.Repeat([]int{5}, 10)},
	} {
		part, e := Part(x.l, x.m)
		wantList(t, "Part", part, e, x.want...)
	}
}

func TestP63CheckCommon(t *testing.T) {
	lists := logsOf(4, 2)
	for _, l := range logsOf(3, 2) {
		for _, m := range logsOf(3, 2) {
			for _, part := range lists {
				want := api.ErrProof
				if plainIsPart(part, l) && plainIsPart(part, m) {
					want = api.OK
				}
				if e := CheckCommon(l, m, part); e != want {
					t.Fatalf("CheckCommon %v %v %v: %v, want %v", l, m, part, e, want)
				}
			}
		}
	}
	// The list may have any signs, and as many as it likes.
	l := slices.Repeat([]int{0, 5}, 5)
	for _, part := range [][]int{{6}, {-1}, {math.MaxInt}, {math.MinInt}, {0, 6}, {6, 0}, {0, -1, 5}, make([]int, 6), make([]int, 11), make([]int, 100), append(slices.Clone(l), 0)} {
		if e := CheckCommon(l, l, part); e != api.ErrProof {
			t.Errorf("CheckCommon %v: %v", part, e)
		}
	}
	for _, part := range [][]int{nil, {}, {0}, {5, 5, 5, 5, 5}, {0, 0, 0, 0, 0}, {0, 5, 5}, l} {
		if e := CheckCommon(l, l, part); e != api.OK {
			t.Errorf("CheckCommon %v: %v", part, e)
		}
	}
	if e := CheckCommon(l, []int{0}, []int{5}); e != api.ErrProof {
		t.Errorf("CheckCommon of a part of the first one: %v", e)
	}
	if e := CheckCommon([]int{0}, l, []int{5}); e != api.ErrProof {
		t.Errorf("CheckCommon of a part of the second one: %v", e)
	}
}
