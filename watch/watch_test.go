package watch

import (
	"math"
	"slices"
	"testing"

	"diaphone/api"
)

// shifts returns shifts with From, To and Pay by turns.
func shifts(numbers ...int) []api.Shift {
	var l []api.Shift
	for i := 0; i < len(numbers); i += 3 {
		l = append(l, api.Shift{From: numbers[i], To: numbers[i+1], Pay: numbers[i+2]})
	}
	return l
}

// three are the shifts of the chapter's examples.
func three() []api.Shift {
	return shifts(0, 4, 3, 2, 6, 5, 4, 8, 3)
}

// most returns as many shifts as there may be, all the same.
func most(from, to, pay int) []api.Shift {
	return slices.Repeat(shifts(from, to, pay), api.MaxShifts)
}

// smallTime is the greatest To of small lists.
const smallTime = 4

// listsOf returns all lists of so many shifts up to smallTime with these pays.
func listsOf(count int, pays ...int) [][]api.Shift {
	out := [][]api.Shift{nil}
	for range count {
		var next [][]api.Shift
		for _, l := range out {
			for to := range smallTime + 1 {
				for from := range to {
					for _, pay := range pays {
						next = append(next, append(slices.Clone(l), api.Shift{From: from, To: to, Pay: pay}))
					}
				}
			}
		}
		out = next
	}
	return out
}

func smallLists() [][]api.Shift {
	out := listsOf(0)
	out = append(out, listsOf(1, 0, 1, 2, 3)...)
	out = append(out, listsOf(2, 0, 1, 2, 3)...)
	out = append(out, listsOf(3, 1, 3)...)
	return append(out, listsOf(4, 2)...)
}

// largeLists returns lists of many shifts, the same ones each time; some are short and some touch.
func largeLists(count int) [][]api.Shift {
	state := uint32(1)
	upTo := func(n int) int {
		state = state*1664525 + 1013904223
		return int(state>>16) % (n + 1)
	}
	out := make([][]api.Shift, count)
	for i := range out {
		time := []int{api.MaxTime, 12, 40, 200}[i%4]
		length := 1 + upTo(time-1)
		for range api.MaxShifts - i%3 {
			from := upTo(time - 1)
			to := min(time, from+1+upTo(length-1))
			out[i] = append(out[i], api.Shift{From: from, To: to, Pay: upTo(api.MaxPay)})
		}
	}
	return out
}

func allLists() [][]api.Shift {
	return append(smallLists(), largeLists(200)...)
}

// refused is arguments that are no shifts, and the error.
type refused struct {
	l    []api.Shift
	want api.Errno
}

func invalid() []refused {
	out := []refused{
		{slices.Repeat(shifts(0, 1, 0), api.MaxShifts+1), api.ErrLarge},
		{slices.Repeat(shifts(0, 1, 0), 100), api.ErrLarge},
		// Also if there is no right shift.
		{slices.Repeat(shifts(1, 0, -1), api.MaxShifts+1), api.ErrLarge},
	}
	for _, l := range [][]api.Shift{
		shifts(0, 0, 0), shifts(5, 5, 1), shifts(6, 5, 1), shifts(-1, 1, 1), shifts(-2, -1, 1), shifts(0, -1, 1),
		shifts(0, api.MaxTime+1, 1), shifts(api.MaxTime, api.MaxTime, 1), shifts(api.MaxTime, api.MaxTime+1, 1),
		shifts(0, 1, -1), shifts(0, 1, api.MaxPay+1),
		shifts(math.MinInt, 1, 1), shifts(math.MaxInt, 1, 1), shifts(0, math.MinInt, 1), shifts(0, math.MaxInt, 1),
		shifts(0, 1, math.MinInt), shifts(0, 1, math.MaxInt), shifts(math.MinInt, math.MaxInt, 0),
	} {
		out = append(out, refused{l, api.ErrArg}, refused{append(three(), l...), api.ErrArg})
		out = append(out, refused{append(slices.Clone(l), three()...), api.ErrArg}, refused{append(most(0, 1, 1)[1:], l...), api.ErrArg})
	}
	return out
}

func wantRefused(t *testing.T, what string, zero bool, got, want api.Errno) {
	t.Helper()
	if got != want || !zero {
		t.Errorf("%s: error %v (other results zero: %v), want %v", what, got, zero, want)
	}
}

func wantNumber(t *testing.T, what string, got int, e api.Errno, want int) {
	t.Helper()
	if got != want || e != api.OK {
		t.Errorf("%s: %v %v, want %v", what, got, e, want)
	}
}

func wantList(t *testing.T, what string, got []int, e api.Errno, want ...int) {
	t.Helper()
	if !slices.Equal(got, want) || e != api.OK {
		t.Errorf("%s: %v %v, want %v", what, got, e, want)
	}
}

func wantShifts(t *testing.T, what string, got []api.Shift, e api.Errno, want ...api.Shift) {
	t.Helper()
	if !slices.Equal(got, want) || e != api.OK {
		t.Errorf("%s: %v %v, want %v", what, got, e, want)
	}
}

// plainRunning returns, for each moment up to MaxTime, the numbers of the shifts that run at it.
func plainRunning(l []api.Shift) [][]int {
	out := make([][]int, api.MaxTime+1)
	for i, s := range l {
		for m := s.From; m < s.To; m++ {
			out[m] = append(out[m], i)
		}
	}
	return out
}

// plainOverlap looks for a common moment.
func plainOverlap(a, b api.Shift) bool {
	for m := a.From; m < a.To; m++ {
		for k := b.From; k < b.To; k++ {
			if m == k {
				return true
			}
		}
	}
	return false
}

// plainPeak returns the smallest moment at which the most shifts run, and how many.
func plainPeak(l []api.Shift) (int, int) {
	moment, most := 0, 0
	for m, running := range plainRunning(l) {
		if len(running) > most {
			moment, most = m, len(running)
		}
	}
	return moment, most
}

// plainRoster reports whether shifts that overlap have different keepers, and how many keepers there are.
func plainRoster(l []api.Shift, roster []int) (int, bool) {
	keepers := map[int]bool{}
	for j, keeper := range roster {
		keepers[keeper] = true
		for i := range j {
			if roster[i] == keeper && plainOverlap(l[i], l[j]) {
				return 0, false
			}
		}
	}
	return len(keepers), true
}

func TestP41Validate(t *testing.T) {
	for _, x := range invalid() {
		if e := Validate(x.l); e != x.want {
			t.Errorf("Validate %v: %v, want %v", x.l, e, x.want)
		}
	}
	valid := append(allLists(), nil, []api.Shift{}, three(), most(0, api.MaxTime, api.MaxPay), most(999, 1000, 0), shifts(0, 1, 0))
	for _, l := range valid {
		if e := Validate(l); e != api.OK {
			t.Errorf("Validate %v: %v", l, e)
		}
	}
}

// TestP41Errors asks every function for the error of Validate, though the other arguments have errors too.
func TestP41Errors(t *testing.T) {
	posts := make([]api.Post, api.MaxShifts+1)
	for _, x := range invalid() {
		for what, f := range map[string]func([]api.Shift) ([]int, api.Errno){
			"Running": func(l []api.Shift) ([]int, api.Errno) { return Running(l, -1) },
			"Roster":  Roster, "Alone": Alone, "Moments": Moments,
		} {
			l, e := f(x.l)
			wantRefused(t, what, len(l) == 0, e, x.want)
		}
		for what, f := range map[string]func([]api.Shift) (int, api.Errno){
			"CheckRoster":  func(l []api.Shift) (int, api.Errno) { return CheckRoster(l, make([]int, len(l))) },
			"CheckAlone":   func(l []api.Shift) (int, api.Errno) { return CheckAlone(l, []int{0, 1}) },
			"CheckMoments": func(l []api.Shift) (int, api.Errno) { return CheckMoments(l, nil) },
			"CheckPosts":   func(l []api.Shift) (int, api.Errno) { return CheckPosts(l, posts) },
			"a right post": func(l []api.Shift) (int, api.Errno) { return CheckPosts(l, posts[:1]) },
			"Covered":      Covered,
		} {
			n, e := f(x.l)
			wantRefused(t, what, n == 0, e, x.want)
		}
		for what, f := range map[string]func([]api.Shift) ([]api.Shift, api.Errno){
			"Without":    func(l []api.Shift) ([]api.Shift, api.Errno) { return Without(l, -1) },
			"Without 0":  func(l []api.Shift) ([]api.Shift, api.Errno) { return Without(l, 0) },
			"Stretch":    func(l []api.Shift) ([]api.Shift, api.Errno) { return Stretch(l, -1, 1) },
			"Stretch 0":  func(l []api.Shift) ([]api.Shift, api.Errno) { return Stretch(l, 0, 1) },
			"Stretch by": func(l []api.Shift) ([]api.Shift, api.Errno) { return Stretch(l, 0, math.MaxInt) },
			"Spells":     Spells, "Mirror": Mirror,
		} {
			l, e := f(x.l)
			wantRefused(t, what, len(l) == 0, e, x.want)
		}
		is, e := Overlap(x.l, 0, 100)
		wantRefused(t, "Overlap", !is, e, x.want)
		is, e = Overlap(x.l, 0, 0)
		wantRefused(t, "Overlap 0", !is, e, x.want)
		m, n, e := Peak(x.l)
		wantRefused(t, "Peak", m == 0 && n == 0, e, x.want)
		set, n, e := Earn(x.l)
		wantRefused(t, "Earn", len(set) == 0 && n == 0, e, x.want)
		p, e := Posts(x.l)
		wantRefused(t, "Posts", len(p) == 0, e, x.want)
	}
}

func TestP41NoShift(t *testing.T) {
	for _, l := range [][]api.Shift{nil, three(), most(0, 5, 1)} {
		for _, i := range []int{-1, len(l), len(l) + 1, api.MaxShifts, math.MinInt, math.MaxInt} {
			for _, j := range []int{0, i} {
				is, e := Overlap(l, i, j)
				wantRefused(t, "Overlap", !is, e, api.ErrNone)
				is, e = Overlap(l, j, i)
				wantRefused(t, "Overlap", !is, e, api.ErrNone)
			}
			s, e := Without(l, i)
			wantRefused(t, "Without", len(s) == 0, e, api.ErrNone)
			for _, by := range []int{0, 1, -100, api.MaxTime + 1, math.MinInt, math.MaxInt} {
				s, e = Stretch(l, i, by)
				wantRefused(t, "Stretch", len(s) == 0, e, api.ErrNone)
			}
		}
	}
}

func TestP41NoMoment(t *testing.T) {
	for _, l := range [][]api.Shift{nil, three(), most(0, api.MaxTime, 1)} {
		for _, m := range []int{-1, api.MaxTime + 1, math.MinInt, math.MaxInt} {
			r, e := Running(l, m)
			wantRefused(t, "Running", len(r) == 0, e, api.ErrArg)
		}
	}
}

func TestP42Overlap(t *testing.T) {
	for _, l := range allLists() {
		for i := range l {
			for j := range l {
				if is, e := Overlap(l, i, j); is != plainOverlap(l[i], l[j]) || e != api.OK {
					t.Fatalf("Overlap %v %v %v: %v %v", l, i, j, is, e)
				}
			}
		}
	}
}

func TestP42Running(t *testing.T) {
	for i, l := range append(largeLists(20), smallLists()...) {
		upTo := api.MaxTime
		if i >= 20 {
			upTo = smallTime + 1
		}
		plain := plainRunning(l)
		for m := range upTo + 1 {
			r, e := Running(l, m)
			wantList(t, "Running", r, e, plain[m]...)
		}
	}
	r, e := Running(most(0, api.MaxTime, 0), api.MaxTime)
	wantList(t, "Running at the end", r, e)
	r, e = Running(most(0, api.MaxTime, 0), api.MaxTime-1)
	wantList(t, "Running at last", r, e, 0, 1, 2, 3, 4, 5, 6, 7, 8, 9, 10, 11)
}

func TestP42Peak(t *testing.T) {
	lists := append(allLists(), three(), nil, []api.Shift{}, most(999, 1000, 0), most(0, 1000, 99), shifts(5, 9, 0, 5, 9, 0, 1, 4, 0, 2, 4, 0))
	for _, l := range lists {
		moment, most, e := Peak(l)
		if m, n := plainPeak(l); moment != m || most != n || e != api.OK {
			t.Errorf("Peak %v: %v %v %v, want %v %v", l, moment, most, e, m, n)
		}
	}
}

func TestP42CheckRoster(t *testing.T) {
	for _, x := range []struct {
		roster []int
		want   api.Errno
	}{
		{nil, api.ErrArg},
		{[]int{0, 1}, api.ErrArg},
		{[]int{0, 1, 0, 1}, api.ErrArg},
		{[]int{0, -1, 0}, api.ErrArg},
		{[]int{12, 1, 0}, api.ErrArg},
		{[]int{0, 1, math.MaxInt}, api.ErrArg},
		{[]int{0, 1, math.MinInt}, api.ErrArg},
		// The whole roster is examined for ErrArg before it is judged.
		{[]int{0, 0, 12}, api.ErrArg},
		{[]int{0, 0}, api.ErrArg},
		{[]int{0, 0, 1}, api.ErrRule},
		{[]int{1, 0, 0}, api.ErrRule},
		{[]int{11, 11, 11}, api.ErrRule},
	} {
		n, e := CheckRoster(three(), x.roster)
		wantRefused(t, "CheckRoster", n == 0, e, x.want)
	}
	n, e := CheckRoster(nil, []int{0})
	wantRefused(t, "CheckRoster without shifts", n == 0, e, api.ErrArg)
	// The shifts that overlap need not be neighbors in the list.
	n, e = CheckRoster(shifts(0, 9, 0, 20, 30, 0, 40, 50, 0, 8, 20, 0), []int{1, 1, 1, 1})
	wantRefused(t, "CheckRoster of the first and the last", n == 0, e, api.ErrRule)
	n, e = CheckRoster(nil, nil)
	wantNumber(t, "CheckRoster of nothing", n, e, 0)
	n, e = CheckRoster(three(), []int{11, 5, 0})
	wantNumber(t, "CheckRoster of three", n, e, 3)
	n, e = CheckRoster(most(0, 1000, 0), []int{11, 10, 9, 8, 7, 6, 5, 4, 3, 2, 1, 0})
	wantNumber(t, "CheckRoster of all", n, e, api.MaxShifts)
	n, e = CheckRoster(shifts(0, 1, 0, 1, 2, 0, 2, 3, 0), []int{7, 7, 7})
	wantNumber(t, "CheckRoster of shifts that touch", n, e, 1)
}

// rostersOf returns all rosters for so many shifts with the numbers up to that of the last shift.
func rostersOf(count int) [][]int {
	out := [][]int{nil}
	for range count {
		var next [][]int
		for _, r := range out {
			for keeper := range count {
				next = append(next, append(slices.Clone(r), keeper))
			}
		}
		out = next
	}
	return out
}

// TestP42AllRosters holds CheckRoster and Roster against all rosters of small lists.
func TestP42AllRosters(t *testing.T) {
	for _, l := range append(append(listsOf(1, 0), listsOf(2, 0)...), listsOf(3, 0)...) {
		fewest := len(l)
		for _, r := range rostersOf(len(l)) {
			n, e := CheckRoster(l, r)
			if count, ok := plainRoster(l, r); ok {
				wantNumber(t, "CheckRoster", n, e, count)
				fewest = min(fewest, count)
			} else {
				wantRefused(t, "CheckRoster", n == 0, e, api.ErrRule)
			}
		}
		wantRoster(t, l, fewest)
	}
}

func wantRoster(t *testing.T, l []api.Shift, want int) {
	t.Helper()
	r, e := Roster(l)
	n, ok := plainRoster(l, r)
	if e != api.OK || len(r) != len(l) || !ok || n != want {
		t.Errorf("Roster %v: %v %v, want %v keepers", l, r, e, want)
	}
	for _, keeper := range r {
		if keeper < 0 || keeper >= api.MaxShifts {
			t.Errorf("Roster %v: %v has a keeper %v", l, r, keeper)
		}
	}
	n, e = CheckRoster(l, r)
	wantNumber(t, "CheckRoster of Roster", n, e, want)
}

// TestS4Roster checks the consequence: as many keepers are needed as run at the peak, and fewer cannot be enough.
func TestS4Roster(t *testing.T) {
	for _, l := range append(allLists(), nil, three(), most(0, 1000, 99), most(999, 1000, 0)) {
		_, most := plainPeak(l)
		wantRoster(t, l, most)
	}
}

func TestP42Examples(t *testing.T) {
	moment, most, e := Peak(three())
	if moment != 2 || most != 2 || e != api.OK {
		t.Errorf("example 1: %v %v %v", moment, most, e)
	}
	n, e := CheckRoster(three(), []int{0, 1, 0})
	wantNumber(t, "example 1", n, e, 2)
}

// TestMemory sees to it that no function changes its arguments or gives out a part of them (R5).
func TestMemory(t *testing.T) {
	for i, f := range []func([]api.Shift) ([]api.Shift, api.Errno){
		Spells, Mirror,
		func(l []api.Shift) ([]api.Shift, api.Errno) { return Without(l, 0) },
		func(l []api.Shift) ([]api.Shift, api.Errno) { return Without(l, 1) },
		func(l []api.Shift) ([]api.Shift, api.Errno) { return Without(l, 2) },
		func(l []api.Shift) ([]api.Shift, api.Errno) { return Stretch(l, 0, 0) },
		func(l []api.Shift) ([]api.Shift, api.Errno) { return Stretch(l, 1, 1) },
		func(l []api.Shift) ([]api.Shift, api.Errno) { return Stretch(l, 1, -100) },
		func(l []api.Shift) ([]api.Shift, api.Errno) { return Stretch(l, 1, 999) },
	} {
		// Backwards, so that what sorts in place is seen.
		l := three()
		slices.Reverse(l)
		before := slices.Clone(l)
		r, _ := f(l)
		r = r[:cap(r)]
		for k := range r {
			r[k] = api.Shift{From: 77}
		}
		if !slices.Equal(l, before) {
			t.Errorf("%d: the shifts are %v afterwards", i, l)
		}
	}
	l := three()
	slices.Reverse(l)
	before := slices.Clone(l)
	roster, set, moments, posts := []int{9, 3, 9}, []int{0, 2}, []int{2, 4}, []api.Post{{Moment: 5, Pay: 5}, {Moment: 2, Pay: 5}}
	_, a := CheckRoster(l, roster)
	_, b := CheckAlone(l, set)
	_, c := CheckMoments(l, moments)
	_, d := CheckPosts(l, posts)
	Overlap(l, 0, 1)
	Running(l, 3)
	Peak(l)
	Roster(l)
	Alone(l)
	Moments(l)
	Earn(l)
	Posts(l)
	Covered(l)
	if a != api.OK || b != api.OK || c != api.OK || d != api.OK {
		t.Errorf("checks: %v %v %v %v", a, b, c, d)
	}
	if !slices.Equal(l, before) || !slices.Equal(roster, []int{9, 3, 9}) || !slices.Equal(set, []int{0, 2}) || !slices.Equal(moments, []int{2, 4}) || !slices.Equal(posts, []api.Post{{Moment: 5, Pay: 5}, {Moment: 2, Pay: 5}}) {
		t.Errorf("the arguments are %v %v %v %v %v afterwards", l, roster, set, moments, posts)
	}
}

// TestEqualCalls checks that free results are the same each time (R11).
func TestEqualCalls(t *testing.T) {
	for _, l := range largeLists(50) {
		for range 3 {
			again := slices.Clone(l)
			for i, f := range []func([]api.Shift) ([]int, api.Errno){Roster, Alone, Moments} {
				a, _ := f(l)
				if b, _ := f(again); !slices.Equal(a, b) {
					t.Errorf("%d: %v, then %v", i, a, b)
				}
			}
			a, _, _ := Earn(l)
			b, _, _ := Earn(again)
			p, _ := Posts(l)
			q, _ := Posts(again)
			if !slices.Equal(a, b) || !slices.Equal(p, q) {
				t.Errorf("Earn and Posts: %v %v, then %v %v", a, p, b, q)
			}
		}
	}
}
