package haze

import (
	"math"
	"math/big"
	"slices"
	"testing"

	"diaphone/api"
)

func plainMisfit(h []api.Reading, row []*big.Rat) *big.Rat {
	sum := new(big.Rat)
	for i, r := range h {
		off := new(big.Rat).Sub(big.NewRat(int64(r.Value), 1), row[i])
		off.Mul(off, off)
		sum.Add(sum, off.Mul(off, big.NewRat(int64(r.Weight), 1)))
	}
	return sum
}

// plainFalling reports whether no number times sign is greater than the one before.
func plainFalling(row []*big.Rat, sign int) bool {
	for i := range len(row) - 1 {
		if row[i].Cmp(row[i+1])*sign < 0 {
			return false
		}
	}
	return true
}

// plainCut returns the row of the means of the runs that end at the hours in cuts.
func plainCut(h []api.Reading, cuts int) []*big.Rat {
	var row []*big.Rat
	for i := range h {
		if i == len(h)-1 || cuts>>i&1 == 1 {
			row = append(row, slices.Repeat([]*big.Rat{plainMean(h[len(row) : i+1])}, i+1-len(row))...)
		}
	}
	return row
}

// plainNearest tries all ways to cut the hours into runs: over the runs of the best row, its numbers are the means.
func plainNearest(h []api.Reading, sign int) (row []*big.Rat, least *big.Rat) {
	for cuts := range 1 << (len(h) - 1) {
		other := plainCut(h, cuts)
		if !plainFalling(other, sign) {
			continue
		}
		if m := plainMisfit(h, other); row == nil || m.Cmp(least) < 0 {
			row, least = other, m
		}
	}
	return row, least
}

func allInApi(row []*big.Rat) []api.Rat {
	var out []api.Rat
	for _, x := range row {
		out = append(out, inApi(x))
	}
	return out
}

// plainBlocks returns the runs of equal numbers.
func plainBlocks(row []api.Rat) []api.Block {
	var out []api.Block
	for i, x := range row {
		if i == 0 || x != row[i-1] {
			out = append(out, api.Block{From: i, Mean: x})
		}
		out[len(out)-1].To = i
	}
	return out
}

func wantBest(t *testing.T, h []api.Reading) {
	t.Helper()
	row, least := plainNearest(h, 1)
	want := allInApi(row)
	l, e := Best(h)
	wantRats(t, "Best", l, e, want)
	m, e := Misfit(h)
	wantRat(t, "Misfit", m, e, inApi(least))
	b, e := Blocks(h)
	if !slices.Equal(b, plainBlocks(want)) || e != api.OK {
		t.Errorf("Blocks %v: %v %v", h, b, e)
	}
}

func TestP22Best(t *testing.T) {
	for _, h := range append(smallHazes(), largeHazes(60)...) {
		wantBest(t, h)
	}
}

func TestP22BestExamples(t *testing.T) {
	l, e := Best(of(3, 1, 2))
	wantRats(t, "example 1", l, e, []api.Rat{rat(3, 1), rat(3, 2), rat(3, 2)})
	m, e := Misfit(of(3, 1, 2))
	wantRat(t, "example 1", m, e, rat(1, 2))
	l, e = Best(of(1, 2, 3))
	wantRats(t, "example 2", l, e, []api.Rat{rat(2, 1), rat(2, 1), rat(2, 1)})
	l, e = Best(of(api.MaxValue))
	wantRats(t, "Best of one hour", l, e, []api.Rat{rat(100, 1)})
	l, e = Best(longest(0, 1))
	wantRats(t, "Best of zeros", l, e, slices.Repeat([]api.Rat{rat(0, 1)}, api.MaxHours))
}

// TestP22BestIsLeast holds the best row against all falling rows of halves.
func TestP22BestIsLeast(t *testing.T) {
	var rows [][]*big.Rat
	for a := range int64(9) {
		for b := range a + 1 {
			for c := range b + 1 {
				rows = append(rows, []*big.Rat{big.NewRat(a, 2), big.NewRat(b, 2), big.NewRat(c, 2)})
			}
		}
	}
	for _, h := range hazesUpTo(3, []int{0, 1, 2, 4}, []int{1, 3}) {
		m, _ := Misfit(h)
		for _, row := range rows {
			if other := plainMisfit(h, row); other.Cmp(inBig(m)) < 0 {
				t.Fatalf("Misfit %v: %v, but that of %v is %v", h, m, row, other)
			}
		}
	}
}

func TestP22Blocks(t *testing.T) {
	for _, x := range []struct {
		h    []api.Reading
		want []api.Block
	}{
		{of(3, 1, 2), []api.Block{{From: 0, To: 0, Mean: rat(3, 1)}, {From: 1, To: 2, Mean: rat(3, 2)}}},
		// Equal numbers are one block, though they need no pooling.
		{of(5, 5, 1), []api.Block{{From: 0, To: 1, Mean: rat(5, 1)}, {From: 2, To: 2, Mean: rat(1, 1)}}},
		{of(5, 4, 6), []api.Block{{From: 0, To: 2, Mean: rat(5, 1)}}},
		{of(5, 3, 7, 5), []api.Block{{From: 0, To: 3, Mean: rat(5, 1)}}},
		{longest(7, 3), []api.Block{{From: 0, To: 11, Mean: rat(7, 1)}}},
		{of(9), []api.Block{{From: 0, To: 0, Mean: rat(9, 1)}}},
	} {
		if b, e := Blocks(x.h); !slices.Equal(b, x.want) || e != api.OK {
			t.Errorf("Blocks %v: %v %v, want %v", x.h, b, e, x.want)
		}
	}
}

// TestP22BlocksAreMeans and TestP22MinMax check the consequences (S2).
func TestP22BlocksAreMeans(t *testing.T) {
	for _, h := range largeHazes(40) {
		all, _ := Blocks(h)
		for _, b := range all {
			m, e := Mean(h, b.From, b.To)
			wantRat(t, "Mean of a block", m, e, b.Mean)
		}
	}
}

func TestP22MinMax(t *testing.T) {
	for _, h := range append(smallHazes(), largeHazes(40)...) {
		var want []api.Rat
		for i := range h {
			var least *big.Rat
			for a := range i + 1 {
				greatest := plainMean(h[a : i+1])
				for b := i; b < len(h); b++ {
					if m := plainMean(h[a : b+1]); m.Cmp(greatest) > 0 {
						greatest = m
					}
				}
				if least == nil || greatest.Cmp(least) < 0 {
					least = greatest
				}
			}
			want = append(want, inApi(least))
		}
		l, e := Best(h)
		wantRats(t, "the least of the greatest means", l, e, want)
	}
}

// TestP22MisfitOfManyDenominators has blocks whose weights are coprime, so that nothing cancels.
func TestP22MisfitOfManyDenominators(t *testing.T) {
	var h []api.Reading
	for i, weights := range [][2]int{{9, 8}, {9, 7}, {8, 7}, {7, 6}, {6, 5}, {4, 3}} {
		top := api.MaxValue - 16*i
		h = append(h, api.Reading{Value: top - 1, Weight: weights[0]}, api.Reading{Value: top, Weight: weights[1]})
	}
	wantBest(t, h)
	if m, _ := Misfit(h); m.Den != 17*16*15*13*11*7 {
		t.Errorf("Misfit: %v", m)
	}
	// The greatest misfit: half of the weight at either end.
	m, e := Misfit(append(slices.Repeat([]api.Reading{{Value: 0, Weight: 9}}, 6), slices.Repeat([]api.Reading{{Value: 100, Weight: 9}}, 6)...))
	wantRat(t, "the greatest Misfit", m, e, rat(108*2500, 1))
}

// rowsOf returns all lists of n numbers from least to greatest.
func rowsOf(n, least, greatest int) [][]int {
	out := [][]int{nil}
	for range n {
		var next [][]int
		for _, l := range out {
			for x := least; x <= greatest; x++ {
				next = append(next, append(slices.Clone(l), x))
			}
		}
		out = next
	}
	return out
}

// claims reports whether the row is that of the fractions.
func claims(r api.Row, want []api.Rat) bool {
	for i, x := range want {
		if r.Num[i]*x.Den != x.Num*r.Den {
			return false
		}
	}
	return true
}

func TestP23CheckBest(t *testing.T) {
	for n := 1; n <= 3; n++ {
		for _, den := range []int{1, 2, 3, 5} {
			rows := rowsOf(n, -1, 2*den+1)
			for _, h := range hazesUpTo(n, []int{0, 1, 2}, []int{1, 2}) {
				if len(h) != n {
					continue
				}
				row, _ := plainNearest(h, 1)
				right := allInApi(row)
				for _, nums := range rows {
					r, want := api.Row{Den: den, Num: nums}, api.ErrProof
					if claims(r, right) {
						want = api.OK
					}
					if e := CheckBest(h, r); e != want {
						t.Fatalf("CheckBest %v %v: %v, want %v", h, r, e, want)
					}
				}
			}
		}
	}
}

// common returns a row over the least common denominator.
func common(l []api.Rat) api.Row {
	den := 1
	for _, x := range l {
		d := den
		for den%x.Den != 0 {
			den += d
		}
	}
	r := api.Row{Den: den}
	for _, x := range l {
		r.Num = append(r.Num, x.Num*(den/x.Den))
	}
	return r
}

func TestP23CheckBestOfBest(t *testing.T) {
	checked := 0
	for _, h := range largeHazes(200) {
		l, _ := Best(h)
		r := common(l)
		if r.Den > api.MaxDen {
			wantRefused(t, "CheckBest", true, CheckBest(h, r), api.ErrArg)
			continue
		}
		checked++
		wantRefused(t, "CheckBest of Best", true, CheckBest(h, r), api.OK)
		for i := range r.Num {
			for _, by := range []int{-1, 1} {
				r.Num[i] += by
				wantRefused(t, "CheckBest of another row", true, CheckBest(h, r), api.ErrProof)
				r.Num[i] -= by
			}
		}
	}
	if checked < 50 {
		t.Errorf("only %d best rows were checked", checked)
	}
}

func TestP23CheckBestErrors(t *testing.T) {
	h := of(3, 1, 2)
	for _, x := range []struct {
		r    api.Row
		want api.Errno
	}{
		{api.Row{Den: 2, Num: []int{6, 3, 3}}, api.OK},
		{api.Row{Den: 4, Num: []int{12, 6, 6}}, api.OK},
		{api.Row{Den: api.MaxDen, Num: []int{30000, 15000, 15000}}, api.OK},
		{api.Row{Den: api.MaxDen, Num: []int{30001, 15000, 15000}}, api.ErrProof},
		{api.Row{Den: 2, Num: []int{6, 3, 4}}, api.ErrProof},
		{api.Row{Den: 1, Num: []int{3, 1, 2}}, api.ErrProof},
		{api.Row{Den: 0, Num: []int{6, 3, 3}}, api.ErrArg},
		{api.Row{Den: -2, Num: []int{-6, -3, -3}}, api.ErrArg},
		{api.Row{Den: api.MaxDen + 1, Num: []int{6, 3, 3}}, api.ErrArg},
		{api.Row{Den: math.MinInt, Num: []int{6, 3, 3}}, api.ErrArg},
		{api.Row{Den: math.MaxInt, Num: []int{6, 3, 3}}, api.ErrArg},
		{api.Row{Den: 2}, api.ErrArg},
		{api.Row{Den: 2, Num: []int{6, 3}}, api.ErrArg},
		{api.Row{Den: 2, Num: []int{6, 3, 3, 3}}, api.ErrArg},
		{api.Row{Den: 2, Num: []int{api.MaxNum, 3, -api.MaxNum}}, api.ErrProof},
		{api.Row{Den: 2, Num: []int{api.MaxNum + 1, 3, 3}}, api.ErrArg},
		{api.Row{Den: 2, Num: []int{6, 3, -api.MaxNum - 1}}, api.ErrArg},
		{api.Row{Den: 2, Num: []int{math.MaxInt, 3, 3}}, api.ErrArg},
		{api.Row{Den: 2, Num: []int{6, 3, math.MinInt}}, api.ErrArg},
		// The whole row is examined for ErrArg before it is judged.
		{api.Row{Den: 2, Num: []int{0, 9, math.MinInt}}, api.ErrArg},
	} {
		if e := CheckBest(h, x.r); e != x.want {
			t.Errorf("CheckBest %v: %v, want %v", x.r, e, x.want)
		}
	}
	r := api.Row{Den: api.MaxDen, Num: slices.Repeat([]int{api.MaxNum}, api.MaxHours)}
	wantRefused(t, "CheckBest of the greatest row", true, CheckBest(longest(100, 9), r), api.ErrProof)
	r.Num = slices.Repeat([]int{-api.MaxNum}, api.MaxHours)
	wantRefused(t, "CheckBest of the smallest row", true, CheckBest(longest(100, 9), r), api.ErrProof)
	r.Num = slices.Repeat([]int{100 * api.MaxDen}, api.MaxHours)
	wantRefused(t, "CheckBest of the greatest best row", true, CheckBest(longest(100, 9), r), api.OK)
}

func TestP24Rising(t *testing.T) {
	for _, h := range append(smallHazes(), largeHazes(40)...) {
		row, _ := plainNearest(h, -1)
		l, e := Rising(h)
		wantRats(t, "Rising", l, e, allInApi(row))
	}
	l, e := Rising(of(1, 2, 3))
	wantRats(t, "example 2", l, e, []api.Rat{rat(1, 1), rat(2, 1), rat(3, 1)})
	l, e = Rising(of(3, 1, 2))
	wantRats(t, "Rising", l, e, []api.Rat{rat(2, 1), rat(2, 1), rat(2, 1)})
}

func TestP24Until(t *testing.T) {
	for _, h := range append(smallHazes(), largeHazes(10)...) {
		l, _ := Best(h)
		for _, den := range []int{1, 2, 3, 7} {
			for num := range 4*den + 1 {
				var want api.Mark
				i := slices.IndexFunc(l, func(x api.Rat) bool { return inBig(x).Cmp(big.NewRat(int64(num), int64(den))) <= 0 })
				if i >= 0 {
					want = api.Mark{Known: true, Hour: i}
				}
				if k, e := Until(h, num, den); k != want || e != api.OK {
					t.Errorf("Until %v %d/%d: %v %v, want %v", h, num, den, k, e, want)
				}
			}
		}
	}
}

func TestP24UntilErrors(t *testing.T) {
	h := of(3, 1, 2)
	for _, x := range []struct {
		num, den int
		want     api.Mark
		e        api.Errno
	}{
		{3, 1, api.Mark{Known: true}, api.OK},
		{3, 2, api.Mark{Known: true, Hour: 1}, api.OK},
		{149, 100, api.Mark{}, api.OK},
		{150, 100, api.Mark{Known: true, Hour: 1}, api.OK},
		{299, 100, api.Mark{Known: true, Hour: 1}, api.OK},
		{0, 1, api.Mark{}, api.OK},
		{100, 1, api.Mark{Known: true}, api.OK},
		{10000, 100, api.Mark{Known: true}, api.OK},
		{1, 0, api.Mark{}, api.ErrArg},
		{0, 0, api.Mark{}, api.ErrArg},
		{-1, -1, api.Mark{}, api.ErrArg},
		{1, 101, api.Mark{}, api.ErrArg},
		{-1, 1, api.Mark{}, api.ErrArg},
		{101, 1, api.Mark{}, api.ErrArg},
		{10001, 100, api.Mark{}, api.ErrArg},
		{math.MaxInt, 1, api.Mark{}, api.ErrArg},
		{math.MinInt, 1, api.Mark{}, api.ErrArg},
		{1, math.MaxInt, api.Mark{}, api.ErrArg},
		{1, math.MinInt, api.Mark{}, api.ErrArg},
	} {
		if k, e := Until(h, x.num, x.den); k != x.want || e != x.e {
			t.Errorf("Until %d/%d: %v %v, want %v %v", x.num, x.den, k, e, x.want, x.e)
		}
	}
	k, e := Until(of(0, 5, 0), 0, 1)
	if k != (api.Mark{Known: true, Hour: 2}) || e != api.OK {
		t.Errorf("Until 0: %v %v", k, e)
	}
}

func TestP24Highest(t *testing.T) {
	for _, h := range append(smallHazes(), largeHazes(40)...) {
		best, _ := Best(h)
		for hour := range h {
			want := plainMean(h[:hour+1])
			for b := hour; b < len(h); b++ {
				if m := plainMean(h[:b+1]); m.Cmp(want) > 0 {
					want = m
				}
			}
			m, e := Highest(h, hour)
			wantRat(t, "Highest", m, e, inApi(want))
			if inBig(best[hour]).Cmp(want) > 0 || hour == 0 && best[0] != m {
				t.Errorf("Highest %v %d: %v, but Best is %v", h, hour, m, best)
			}
		}
	}
	m, e := Highest(of(3, 1, 2), 1)
	wantRat(t, "Highest", m, e, rat(2, 1))
	m, e = Highest(of(9, 1, 2), 2)
	wantRat(t, "Highest of the last hour", m, e, rat(4, 1))
}
