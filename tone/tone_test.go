package tone

import (
	"math"
	"slices"
	"testing"

	"diaphone/api"
)

// tonesOf returns all tones of n seconds, in ascending order.
func tonesOf(n int) [][]int {
	if n == 0 {
		return [][]int{nil}
	}
	var out [][]int
	for _, t := range tonesOf(n - 1) {
		out = append(out, append(slices.Clone(t), 0), append(slices.Clone(t), 1))
	}
	slices.SortFunc(out, slices.Compare[[]int])
	return out
}

// tonesUpTo returns all tones of 1 to n seconds.
func tonesUpTo(n int) [][]int {
	var out [][]int
	for k := 1; k <= n; k++ {
		out = append(out, tonesOf(k)...)
	}
	return out
}

// long returns the first n seconds of a tone, written out.
func long(t []int, n int) []int {
	var out []int
	for len(out) < n {
		out = append(out, t...)
	}
	return out[:n]
}

// far is a common multiple of all the lengths that the exhaustive tests use.
const far = 840

func one(at, n int) []int {
	t := make([]int, n)
	t[at] = 1
	return t
}

// invalid are the arguments that are no tones, with their errors.
var invalid = []struct {
	t []int
	e api.Errno
}{
	{nil, api.ErrLarge},
	{[]int{}, api.ErrLarge},
	{make([]int, api.MaxTone+1), api.ErrLarge},
	{append(make([]int, api.MaxTone), 7), api.ErrLarge},
	{[]int{2}, api.ErrArg},
	{[]int{-1}, api.ErrArg},
	{[]int{1, 0, 2}, api.ErrArg},
	{[]int{math.MinInt, 0}, api.ErrArg},
	{append(make([]int, api.MaxTone-1), math.MaxInt), api.ErrArg},
}

func wantList(t *testing.T, what string, got []int, e api.Errno, want []int) {
	t.Helper()
	if e != api.OK || !slices.Equal(got, want) {
		t.Errorf("%s: %v %v, want %v", what, got, e, want)
	}
}

func wantNumber(t *testing.T, what string, got int, e api.Errno, want int) {
	t.Helper()
	if e != api.OK || got != want {
		t.Errorf("%s: %v %v, want %v", what, got, e, want)
	}
}

func wantRefused(t *testing.T, what string, zero bool, got, want api.Errno) {
	t.Helper()
	if got != want || !zero {
		t.Errorf("%s: error %v (other results zero: %v), want %v", what, got, zero, want)
	}
}

func TestP11Validate(t *testing.T) {
	for _, x := range invalid {
		if e := Validate(x.t); e != x.e {
			t.Errorf("Validate %v: %v, want %v", x.t, e, x.e)
		}
	}
	for _, x := range append(tonesUpTo(6), make([]int, api.MaxTone), one(23, api.MaxTone)) {
		if e := Validate(x); e != api.OK {
			t.Errorf("Validate %v: %v", x, e)
		}
	}
}

func TestP11At(t *testing.T) {
	for _, x := range tonesUpTo(6) {
		for i, want := range long(x, 30) {
			n, e := At(x, i)
			wantNumber(t, "At", n, e, want)
			n, e = At(x, i-60*len(x))
			wantNumber(t, "At before 0", n, e, want)
		}
	}
	// The greatest int is 2^63 - 1, whose remainder by 3 is 1; the smallest is -2^63, whose remainder by 3 is 1 too.
	x := []int{0, 1, 0}
	n, e := At(x, math.MaxInt)
	wantNumber(t, "At the greatest int", n, e, 1)
	n, e = At(x, math.MinInt)
	wantNumber(t, "At the smallest int", n, e, 1)
}

// TestP11Errors asks every function that takes one tone, or a list of them, for the errors of Validate.
func TestP11Errors(t *testing.T) {
	for _, x := range invalid {
		n, e := At(x.t, 0)
		wantRefused(t, "At", n == 0, e, x.e)
		n, e = Period(x.t)
		wantRefused(t, "Period", n == 0, e, x.e)
		n, e = Sounding(x.t)
		wantRefused(t, "Sounding", n == 0, e, x.e)
		n, ok, e := Silence(x.t)
		wantRefused(t, "Silence", n == 0 && !ok, e, x.e)
		n, e = Pieces(x.t, -1)
		wantRefused(t, "Pieces", n == 0, e, x.e)
		l, e := Turn(x.t, 1)
		wantRefused(t, "Turn", len(l) == 0, e, x.e)
		l, e = Repeat(x.t, 0)
		wantRefused(t, "Repeat", len(l) == 0, e, x.e)
		for _, f := range []func([]int) ([]int, api.Errno){Root, Name, Blasts, Swap, Back} {
			l, e = f(x.t)
			wantRefused(t, "a function of one tone", len(l) == 0, e, x.e)
		}
	}
}

func TestP11ErrorsOfTwo(t *testing.T) {
	good := []int{1, 0}
	check := func(a, b []int, want api.Errno) {
		t.Helper()
		is, e := Same(a, b)
		wantRefused(t, "Same", !is, e, want)
		is, e = Alike(a, b)
		wantRefused(t, "Alike", !is, e, want)
		n, ok, e := Agree(a, b)
		wantRefused(t, "Agree", n == 0 && !ok, e, want)
		n, ok, e = Listen(a, b)
		wantRefused(t, "Listen", n == 0 && !ok, e, want)
	}
	for _, x := range invalid {
		check(x.t, good, x.e)
		check(good, x.t, x.e)
		for _, y := range invalid {
			check(x.t, y.t, x.e)
		}
	}
}

func TestP11ErrorsOfLists(t *testing.T) {
	good := []int{1, 0}
	check := func(l [][]int, want api.Errno) {
		t.Helper()
		// The piece has errors too: those of the list come first.
		m, e := Tell(l, make([]int, api.MaxPiece+1))
		wantRefused(t, "Tell", len(m) == 0, e, want)
		n, ok, e := Apart(l)
		wantRefused(t, "Apart", n == 0 && !ok, e, want)
	}
	check(make([][]int, api.MaxTones+1), api.ErrLarge)
	check([][]int{{2}, good, good, good, good, good, good}, api.ErrLarge)
	for _, x := range invalid {
		check([][]int{x.t}, x.e)
		check([][]int{good, good, x.t}, x.e)
	}
	// One by one: the first tone with an error decides.
	check([][]int{good, {2}, nil}, api.ErrArg)
	check([][]int{good, nil, {2}}, api.ErrLarge)
	// Tones that are alike come before a tone with an error.
	check([][]int{good, good, {3}}, api.ErrArg)
}

func TestP12PeriodAndRoot(t *testing.T) {
	for _, x := range tonesUpTo(8) {
		seconds := long(x, 2*far)
		want := 1
		for !slices.Equal(seconds[:far], seconds[want:want+far]) {
			want++
		}
		n, e := Period(x)
		wantNumber(t, "Period", n, e, want)
		l, e := Root(x)
		wantList(t, "Root", l, e, x[:want])
		if len(x)%n != 0 {
			t.Errorf("the period %d of %v does not divide its length", n, x)
		}
	}
	n, e := Period([]int{1, 0, 0, 1, 0, 0})
	wantNumber(t, "example 1", n, e, 3)
	n, e = Period([]int{1, 0, 1, 0, 1})
	wantNumber(t, "Period of a beginning of a shorter tone", n, e, 5)
	n, e = Period(one(23, api.MaxTone))
	wantNumber(t, "Period of the longest tone", n, e, api.MaxTone)
	n, e = Period(make([]int, api.MaxTone))
	wantNumber(t, "Period of silence", n, e, 1)
}

func TestP12Turn(t *testing.T) {
	for _, x := range tonesUpTo(6) {
		for by := range 20 {
			want := long(x, by+len(x))[by:]
			l, e := Turn(x, by)
			wantList(t, "Turn", l, e, want)
			l, e = Turn(x, by-20*len(x))
			wantList(t, "Turn back", l, e, want)
		}
	}
	x := []int{0, 1, 0, 1, 1}
	// By 5, the remainder of 2^63 - 1 is 2, and that of -2^63 is 2.
	l, e := Turn(x, math.MaxInt)
	wantList(t, "Turn by the greatest int", l, e, []int{0, 1, 1, 0, 1})
	l, e = Turn(x, math.MinInt)
	wantList(t, "Turn by the smallest int", l, e, []int{0, 1, 1, 0, 1})
	l, e = Turn([]int{1, 0, 1, 0}, 2)
	wantList(t, "Turn keeps the length", l, e, []int{1, 0, 1, 0})
}

// plainAlike moves s by every number of seconds and compares far along.
func plainAlike(s, t []int) bool {
	for by := range s {
		if slices.Equal(long(s, by+far)[by:], long(t, far)) {
			return true
		}
	}
	return false
}

func TestP12Name(t *testing.T) {
	for _, x := range tonesUpTo(7) {
		p, _ := Period(x)
		var want []int
		for _, y := range tonesOf(p) {
			if plainAlike(x, y) {
				want = y
				break
			}
		}
		l, e := Name(x)
		wantList(t, "Name", l, e, want)
	}
	l, e := Name([]int{1, 0, 0, 1, 0, 0})
	wantList(t, "example 1", l, e, []int{0, 0, 1})
	l, e = Name(one(7, api.MaxTone))
	wantList(t, "Name of the longest tone", l, e, one(23, api.MaxTone))
}

func TestP12SameAndAlike(t *testing.T) {
	all := tonesUpTo(5)
	for _, x := range all {
		for _, y := range all {
			is, e := Same(x, y)
			if want := slices.Equal(long(x, far), long(y, far)); is != want || e != api.OK {
				t.Errorf("Same %v %v: %v %v", x, y, is, e)
			}
			is, e = Alike(x, y)
			if want := plainAlike(x, y); is != want || e != api.OK {
				t.Errorf("Alike %v %v: %v %v", x, y, is, e)
			}
		}
	}
	if is, _ := Same([]int{1, 0}, []int{1, 0, 1, 0}); !is {
		t.Error("the tones 1 0 and 1 0 1 0 are the same")
	}
	if is, _ := Alike([]int{1, 0}, []int{0, 1}); !is {
		t.Error("the tones 1 0 and 0 1 are alike")
	}
}

// TestMemory sees to it that no function changes its tone or gives out a part of it (R5).
func TestMemory(t *testing.T) {
	for i, f := range []func([]int) ([]int, api.Errno){
		Root, Name, Blasts, Swap, Back,
		func(t []int) ([]int, api.Errno) { return Turn(t, 0) },
		func(t []int) ([]int, api.Errno) { return Repeat(t, 1) },
	} {
		x := []int{1, 1, 0, 0}
		l, e := f(x)
		if e != api.OK || !slices.Equal(x, []int{1, 1, 0, 0}) {
			t.Errorf("%d: %v, the tone is %v afterwards", i, e, x)
		}
		l = l[:cap(l)]
		for k := range l {
			l[k] = 9
		}
		if !slices.Equal(x, []int{1, 1, 0, 0}) {
			t.Errorf("%d: the result shares memory with the tone", i)
		}
	}
}
