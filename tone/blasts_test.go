package tone

import (
	"math"
	"slices"
	"testing"

	"diaphone/api"
)

func TestP15Sounding(t *testing.T) {
	for _, x := range tonesUpTo(7) {
		want := 0
		for _, s := range x {
			if s == 1 {
				want++
			}
		}
		n, e := Sounding(x)
		wantNumber(t, "Sounding", n, e, want)
	}
	n, e := Sounding([]int{1, 0, 1, 0})
	wantNumber(t, "Sounding counts the elements, not the period", n, e, 2)
	n, e = Sounding(long([]int{1}, api.MaxTone))
	wantNumber(t, "Sounding of the longest tone", n, e, api.MaxTone)
}

// plainSilence returns the greatest number of seconds for which silence alone is a piece.
func plainSilence(t []int) (int, bool) {
	if !slices.Contains(t, 1) {
		return 0, false
	}
	n, silence := 0, "0"
	for plainPieces(t, n+1)[silence] {
		n++
		silence += "0"
	}
	return n, true
}

func TestP15Silence(t *testing.T) {
	for _, x := range tonesUpTo(8) {
		want, wantOk := plainSilence(x)
		n, ok, e := Silence(x)
		wantFound(t, "Silence", n, ok, e, want, wantOk)
	}
	n, ok, e := Silence([]int{0, 1, 0, 0})
	wantFound(t, "Silence that goes on at the beginning", n, ok, e, 3, true)
	n, ok, e = Silence([]int{1, 1})
	wantFound(t, "Silence of sound alone", n, ok, e, 0, true)
	n, ok, e = Silence(make([]int, api.MaxTone))
	wantFound(t, "Silence without sound", n, ok, e, 0, false)
	n, ok, e = Silence(one(11, api.MaxTone))
	wantFound(t, "Silence of the longest tone", n, ok, e, 23, true)
}

func TestP15BlastsThereAndBack(t *testing.T) {
	for _, x := range tonesUpTo(9) {
		l, e := Blasts(x)
		if x[0] == 0 || x[len(x)-1] == 1 {
			wantRefused(t, "Blasts", len(l) == 0, e, api.ErrRule)
			continue
		}
		back, e2 := FromBlasts(l)
		wantList(t, "FromBlasts of Blasts", back, e2, x)
		if e != api.OK || len(l)%2 != 0 || slices.Min(l) < 1 {
			t.Errorf("Blasts %v: %v %v", x, l, e)
		}
	}
}

func TestP15Blasts(t *testing.T) {
	l, e := Blasts([]int{1, 1, 0, 1, 0, 0, 0})
	wantList(t, "Blasts", l, e, []int{2, 1, 1, 3})
	l, e = Blasts([]int{1, 0, 1, 0})
	wantList(t, "Blasts of the elements, not the period", l, e, []int{1, 1, 1, 1})
	l, e = Blasts(append(long([]int{1}, 23), 0))
	wantList(t, "Blasts of the longest tone", l, e, []int{23, 1})
	for _, x := range [][]int{{1}, {0}, {0, 1}, {1, 0, 1}, {0, 1, 0}} {
		l, e = Blasts(x)
		wantRefused(t, "Blasts", len(l) == 0, e, api.ErrRule)
	}
}

func TestP15FromBlasts(t *testing.T) {
	l, e := FromBlasts([]int{2, 1, 1, 3})
	wantList(t, "FromBlasts", l, e, []int{1, 1, 0, 1, 0, 0, 0})
	l, e = FromBlasts([]int{1, 23})
	wantList(t, "FromBlasts of the longest tone", l, e, one(0, api.MaxTone))
	l, e = FromBlasts(long([]int{1}, api.MaxTone))
	wantList(t, "FromBlasts of the most blasts", l, e, long([]int{1, 0}, api.MaxTone))
	for _, x := range []struct {
		l []int
		e api.Errno
	}{
		{nil, api.ErrArg},
		{[]int{3}, api.ErrArg},
		{[]int{1, 2, 3}, api.ErrArg},
		{[]int{0, 1}, api.ErrArg},
		{[]int{1, -1}, api.ErrArg},
		{[]int{1, 25}, api.ErrArg},
		{[]int{math.MaxInt, math.MaxInt}, api.ErrArg},
		{[]int{24, 24, 24, 0}, api.ErrArg},
		{append(long([]int{1}, 25), 0), api.ErrArg},
		{[]int{24, 24, 24}, api.ErrArg},
		{[]int{24, 1}, api.ErrLarge},
		{[]int{24, 24}, api.ErrLarge},
		{[]int{12, 11, 1, 1}, api.ErrLarge},
		{long([]int{1}, 26), api.ErrLarge},
	} {
		l, e = FromBlasts(x.l)
		wantRefused(t, "FromBlasts", len(l) == 0, e, x.e)
	}
	given := []int{2, 1}
	l, _ = FromBlasts(given)
	l[0] = 9
	if !slices.Equal(given, []int{2, 1}) {
		t.Error("FromBlasts shares memory with its argument")
	}
}

func TestP16SwapAndBack(t *testing.T) {
	for _, x := range tonesUpTo(6) {
		swapped, back := make([]int, len(x)), make([]int, len(x))
		for i, s := range x {
			if s == 0 {
				swapped[i] = 1
			}
			back[len(x)-1-i] = s
		}
		l, e := Swap(x)
		wantList(t, "Swap", l, e, swapped)
		l, e = Back(x)
		wantList(t, "Back", l, e, back)
	}
	l, e := Swap(one(3, api.MaxTone))
	if n, _ := Sounding(l); n != 23 || e != api.OK {
		t.Errorf("Swap of the longest tone: %v %v", l, e)
	}
	l, e = Back(one(3, api.MaxTone))
	wantList(t, "Back of the longest tone", l, e, one(20, api.MaxTone))
}

func TestP16Repeat(t *testing.T) {
	for _, x := range tonesUpTo(6) {
		for times := 1; times <= api.MaxTone; times++ {
			l, e := Repeat(x, times)
			if len(x)*times > api.MaxTone {
				wantRefused(t, "Repeat", len(l) == 0, e, api.ErrLarge)
				continue
			}
			wantList(t, "Repeat", l, e, long(x, len(x)*times))
		}
		for _, times := range []int{0, -1, api.MaxTone + 1, math.MinInt, math.MaxInt} {
			l, e := Repeat(x, times)
			wantRefused(t, "Repeat", len(l) == 0, e, api.ErrArg)
		}
	}
	l, e := Repeat([]int{1}, api.MaxTone)
	wantList(t, "Repeat to the longest tone", l, e, long([]int{1}, api.MaxTone))
	l, e = Repeat(one(0, api.MaxTone), api.MaxTone)
	wantRefused(t, "Repeat of the longest tone", len(l) == 0, e, api.ErrLarge)
}

// TestP16Kept checks which functions keep the period and the numbers of pieces.
func TestP16Kept(t *testing.T) {
	for _, x := range tonesUpTo(6) {
		p, _ := Period(x)
		swapped, _ := Swap(x)
		back, _ := Back(x)
		turned, _ := Turn(x, 5)
		repeated, _ := Repeat(x, 3)
		for _, y := range [][]int{swapped, back, turned, repeated} {
			n, e := Period(y)
			wantNumber(t, "Period afterwards", n, e, p)
			for k := range 10 {
				want, _ := Pieces(x, k)
				n, e := Pieces(y, k)
				wantNumber(t, "Pieces afterwards", n, e, want)
			}
		}
	}
}

func TestP16Count(t *testing.T) {
	for n := 1; n <= 10; n++ {
		names := map[string]bool{}
		for _, x := range tonesOf(n) {
			if p, _ := Period(x); p == n {
				l, _ := Name(x)
				text := ""
				for _, s := range l {
					text += string(rune('0' + s))
				}
				names[text] = true
			}
		}
		k, e := Count(n)
		wantNumber(t, "Count", k, e, len(names))
	}
	for n := 1; n <= api.MaxNames; n++ {
		sum := 0
		for d := 1; d <= n; d++ {
			if n%d == 0 {
				k, _ := Count(d)
				sum += d * k
			}
		}
		wantNumber(t, "the sum of divisor times Count", sum, api.OK, 1<<n)
	}
	k, e := Count(4)
	wantNumber(t, "example 3", k, e, 3)
	for _, n := range []int{0, -1, api.MaxNames + 1, math.MinInt, math.MaxInt} {
		k, e = Count(n)
		wantRefused(t, "Count", k == 0, e, api.ErrArg)
	}
}
