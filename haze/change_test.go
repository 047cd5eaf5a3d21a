package haze

import (
	"math"
	"slices"
	"testing"

	"diaphone/api"
)

func TestP25Turn(t *testing.T) {
	for _, h := range append(smallHazes(), largeHazes(20)...) {
		var want []api.Reading
		for i := range h {
			want = append(want, h[len(h)-1-i])
		}
		l, e := Turn(h)
		wantReadings(t, "Turn", l, e, want)
		best, _ := Best(l)
		slices.Reverse(best)
		rising, e := Rising(h)
		wantRats(t, "Rising", rising, e, best)
	}
}

// wantRaised checks the readings whose Values from from to to are raised.
func wantRaised(t *testing.T, h []api.Reading, from, to, by int, l []api.Reading, e api.Errno) {
	t.Helper()
	want, ok := slices.Clone(h), true
	for i := from; i <= to; i++ {
		want[i].Value += by
		ok = ok && want[i].Value >= 0 && want[i].Value <= 100
	}
	if !ok {
		wantRefused(t, "raised readings", len(l) == 0, e, api.ErrArg)
		return
	}
	wantReadings(t, "raised readings", l, e, want)
}

func TestP25Raise(t *testing.T) {
	hazes := append(hazesUpTo(3, []int{0, 50, 100}, []int{1, 9}), largeHazes(10)...)
	for _, h := range hazes {
		for by := -101; by <= 101; by++ {
			for hour := range h {
				l, e := Raise(h, hour, by)
				wantRaised(t, h, hour, hour, by, l, e)
			}
			l, e := RaiseAll(h, by)
			wantRaised(t, h, 0, len(h)-1, by, l, e)
		}
	}
}

func TestP25RaiseByFar(t *testing.T) {
	for _, by := range []int{math.MinInt, math.MinInt + 1, math.MaxInt - 1, math.MaxInt} {
		for _, value := range []int{0, 1, 50, 100} {
			l, e := Raise(of(value, 3), 0, by)
			wantRefused(t, "Raise", len(l) == 0, e, api.ErrArg)
			l, e = RaiseAll(of(value, 3), by)
			wantRefused(t, "RaiseAll", len(l) == 0, e, api.ErrArg)
		}
	}
	// The last Value alone may be what refuses it.
	l, e := RaiseAll(of(3, 3, 98), 3)
	wantRefused(t, "RaiseAll", len(l) == 0, e, api.ErrArg)
}

// TestP25RaisedBest checks what raising does to the best row.
func TestP25RaisedBest(t *testing.T) {
	for _, h := range append(smallHazes(), largeHazes(20)...) {
		before, _ := Best(h)
		for hour := range h {
			l, e := Raise(h, hour, 1)
			if e != api.OK {
				continue
			}
			after, _ := Best(l)
			for i := range h {
				if inBig(after[i]).Cmp(inBig(before[i])) < 0 {
					t.Errorf("Raise %v %d: the number %d of Best is smaller", h, hour, i)
				}
			}
		}
		l, e := RaiseAll(h, 1)
		if e != api.OK {
			continue
		}
		after, e := Best(l)
		for i, x := range before {
			before[i] = rat(x.Num+x.Den, x.Den)
		}
		wantRats(t, "Best of RaiseAll", after, e, before)
	}
}

func TestP25Opposite(t *testing.T) {
	for _, h := range append(smallHazes(), largeHazes(20)...) {
		var want []api.Reading
		for _, r := range h {
			want = append(want, api.Reading{Value: 100 - r.Value, Weight: r.Weight})
		}
		l, e := Opposite(h)
		wantReadings(t, "Opposite", l, e, want)
		slices.Reverse(l)
		turned, e := Turn(h)
		both, e2 := Opposite(turned)
		wantReadings(t, "Opposite of Turn", both, e, l)
		best, _ := Best(h)
		slices.Reverse(best)
		for i, x := range best {
			best[i] = rat(100*x.Den-x.Num, x.Den)
		}
		other, _ := Best(both)
		wantRats(t, "Best of the Opposite of Turn", other, e2, best)
	}
	l, e := Opposite(of(0, 100, 50))
	wantReadings(t, "Opposite", l, e, of(100, 0, 50))
}

func TestP26Pool(t *testing.T) {
	pooled := 0
	for _, h := range append(hazesUpTo(3, []int{0, 1, 3, 4}, []int{1, 2}), largeHazes(100)...) {
		for hour := range h {
			l, e := Pool(h, hour)
			if hour == len(h)-1 {
				wantRefused(t, "Pool of the last hour", len(l) == 0, e, api.ErrNone)
				continue
			}
			if h[hour].Value >= h[hour+1].Value {
				wantRefused(t, "Pool", len(l) == 0, e, api.ErrRule)
				continue
			}
			m := plainMean(h[hour : hour+2])
			if !m.IsInt() {
				wantRefused(t, "Pool", len(l) == 0, e, api.ErrArg)
				continue
			}
			pooled++
			want := slices.Clone(h)
			want[hour].Value = int(m.Num().Int64())
			want[hour+1].Value = int(m.Num().Int64())
			wantReadings(t, "Pool", l, e, want)
			best, _ := Best(h)
			after, e := Best(l)
			wantRats(t, "Best of Pool", after, e, best)
		}
	}
	if pooled < 50 {
		t.Errorf("only %d pairs were pooled", pooled)
	}
}

func TestP26PoolErrors(t *testing.T) {
	l, e := Pool([]api.Reading{{Value: 4, Weight: 1}, {Value: 10, Weight: 2}}, 0)
	wantReadings(t, "example 3", l, e, []api.Reading{{Value: 8, Weight: 1}, {Value: 8, Weight: 2}})
	for _, x := range []struct {
		h    []api.Reading
		hour int
		want api.Errno
	}{
		{of(7), 0, api.ErrNone},
		{of(7), 1, api.ErrNone},
		{of(3, 1, 2), 0, api.ErrRule},
		{of(3, 1, 2), 1, api.ErrArg},
		{of(3, 1, 2), 2, api.ErrNone},
		// Equal Values are no pair to pool, and neither is one whose mean is not a whole number.
		{of(4, 4), 0, api.ErrRule},
		{of(4, 3), 0, api.ErrRule},
		{[]api.Reading{{Value: 4, Weight: 2}, {Value: 10, Weight: 4}}, 0, api.OK},
		{[]api.Reading{{Value: 4, Weight: 3}, {Value: 10, Weight: 4}}, 0, api.ErrArg},
	} {
		l, e := Pool(x.h, x.hour)
		wantRefused(t, "Pool", (len(l) == 0) == (x.want != api.OK), e, x.want)
	}
}

func TestP26Begin(t *testing.T) {
	for _, h := range append(smallHazes(), largeHazes(20)...) {
		whole, _ := Best(h)
		for hours := -1; hours <= len(h)+1; hours++ {
			l, e := Begin(h, hours)
			if hours < 1 || hours > len(h) {
				wantRefused(t, "Begin", len(l) == 0, e, api.ErrArg)
				continue
			}
			wantReadings(t, "Begin", l, e, h[:hours])
			best, _ := Best(l)
			for i, x := range best {
				if inBig(x).Cmp(inBig(whole[i])) > 0 {
					t.Errorf("Best of Begin %v %d: %v, greater than %v", h, hours, best, whole)
				}
			}
		}
	}
	for _, hours := range []int{math.MinInt, math.MaxInt, api.MaxHours + 1} {
		l, e := Begin(longest(5, 5), hours)
		wantRefused(t, "Begin", len(l) == 0, e, api.ErrArg)
	}
}
