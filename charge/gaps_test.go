package charge

import (
	"slices"
	"testing"

	"diaphone/api"
)

// far is beyond all gaps of weights with the measure 1.
const far = 1000

// plainGaps returns the amounts up to far that are not made up.
func plainGaps(w []int) []int {
	var out []int
	for amount, is := range plainMade(w, far) {
		if !is {
			out = append(out, amount)
		}
	}
	return out
}

func plainEven(gaps []int, greatest int) bool {
	for x := 0; x <= greatest; x++ {
		if slices.Contains(gaps, x) == slices.Contains(gaps, greatest-x) {
			return false
		}
	}
	return true
}

func plainResidues(w []int) []int {
	out := slices.Repeat([]int{-1}, w[0])
	for amount, is := range slices.Backward(plainMade(w, far)) {
		if is {
			out[amount%w[0]] = amount
		}
	}
	return out
}

func TestP73Gaps(t *testing.T) {
	for _, w := range someWeights(12) {
		if by, _ := Measure(w); by != 1 {
			continue
		}
		want := plainGaps(w)
		last := -1
		if len(want) > 0 {
			last = want[len(want)-1]
		}
		gaps, e := Gaps(w)
		wantList(t, "Gaps", gaps, e, want...)
		n, e := Greatest(w)
		wantNumber(t, "Greatest", n, e, last)
		is, e := IsEven(w)
		wantBool(t, "IsEven", is, e, plainEven(want, last))
		if t.Failed() {
			t.Fatalf("with %v", w)
		}
	}
}

func TestP73Infinite(t *testing.T) {
	for _, w := range append(weightsOf(30), edgeWeights()...) {
		if by, _ := Measure(w); by == 1 {
			continue
		}
		gaps, e := Gaps(w)
		wantRefused(t, "Gaps", len(gaps) == 0, e, api.ErrNone)
		n, e := Greatest(w)
		wantRefused(t, "Greatest", n == 0, e, api.ErrNone)
		is, e := IsEven(w)
		wantRefused(t, "IsEven", !is, e, api.ErrNone)
	}
}

func TestP73Examples(t *testing.T) {
	for _, x := range []struct {
		w, gaps []int
		even    bool
	}{
		{[]int{3, 5}, []int{1, 2, 4, 7}, true}, {[]int{1}, nil, true}, {[]int{1, 2, 3, 4}, nil, true}, {[]int{1, 30}, nil, true}, {[]int{2, 3}, []int{1}, true}, {[]int{3, 4, 5}, []int{1, 2}, false}, {[]int{4, 5, 6}, []int{1, 2, 3, 7}, true}, {[]int{2, 29}, []int{1, 3, 5, 7, 9, 11, 13, 15, 17, 19, 21, 23, 25, 27}, true},
	} {
		gaps, e := Gaps(x.w)
		wantList(t, "Gaps", gaps, e, x.gaps...)
		is, e := IsEven(x.w)
		wantBool(t, "IsEven", is, e, x.even)
	}
	n, e := Greatest([]int{1})
	wantNumber(t, "Greatest", n, e, -1)
	n, e = Greatest([]int{3, 5})
	wantNumber(t, "Greatest", n, e, 7)
}

// TestP73TwoWeights asks for the consequences for all two weights with the measure 1.
func TestP73TwoWeights(t *testing.T) {
	for _, w := range setsOf(2, 30) {
		if by, _ := Measure(w); by != 1 {
			continue
		}
		a, b := w[0], w[1]
		n, e := Greatest(w)
		wantNumber(t, "Greatest", n, e, a*b-a-b)
		gaps, e := Gaps(w)
		wantNumber(t, "number of Gaps", len(gaps), e, (a-1)*(b-1)/2)
		is, e := IsEven(w)
		wantBool(t, "IsEven", is, e, true)
	}
}

// TestP73Above asks whether all amounts above Greatest are made up.
func TestP73Above(t *testing.T) {
	for _, w := range [][]int{{1}, {3, 5}, {29, 30}, {28, 29}, {6, 10, 15}, {27, 28, 29, 30}, {16, 20, 24, 29}} {
		greatest, e := Greatest(w)
		if e != api.OK {
			t.Fatalf("Greatest %v: %v", w, e)
		}
		for amount := greatest; amount <= 2000; amount++ {
			if amount < 0 {
				continue
			}
			is, e := Can(w, amount)
			wantBool(t, "Can above Greatest", is, e, amount > greatest)
		}
	}
}

func TestP74Residues(t *testing.T) {
	for _, w := range someWeights(12) {
		l, e := Residues(w)
		wantList(t, "Residues", l, e, plainResidues(w)...)
		if t.Failed() {
			t.Fatalf("with %v", w)
		}
	}
}

func TestP74Examples(t *testing.T) {
	for _, x := range []struct{ w, want []int }{
		{[]int{3, 5}, []int{0, 10, 5}}, {[]int{4, 6}, []int{0, -1, 6, -1}}, {[]int{1, 9}, []int{0}}, {[]int{4, 5, 6}, []int{0, 5, 6, 11}}, {[]int{5}, []int{0, -1, -1, -1, -1}}, {[]int{1}, []int{0}}, {[]int{6, 9}, []int{0, -1, -1, 9, -1, -1}},
	} {
		l, e := Residues(x.w)
		wantList(t, "Residues", l, e, x.want...)
	}
	l, e := Residues([]int{29, 30})
	wantNumber(t, "number of Residues", len(l), e, 29)
	wantNumber(t, "greatest of Residues", slices.Max(l), e, 840)
}

// TestP74Consequences asks whether residues tell what is made up, and what is the greatest gap.
func TestP74Consequences(t *testing.T) {
	for i, w := range weightsOf(30) {
		l, e := Residues(w)
		greatest, f := Greatest(w)
		if e != api.OK || f == api.OK && greatest != slices.Max(l)-w[0] || f != api.OK && !slices.Contains(l, -1) {
			t.Fatalf("%v: Residues %v %v, Greatest %v %v", w, l, e, greatest, f)
		}
		if i%200 > 0 {
			continue
		}
		for amount := 0; amount <= 2000; amount += 1 + amount/50 {
			first := l[amount%w[0]]
			is, e := Can(w, amount)
			wantBool(t, "Can by Residues", is, e, first >= 0 && amount >= first)
		}
	}
}
