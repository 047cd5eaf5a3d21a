package watch

import (
	"math"
	"slices"
	"testing"

	"diaphone/api"
)

// plainAlone reports whether no two shifts of the set have a common moment.
func plainAlone(l []api.Shift, set []int) bool {
	for k, j := range set {
		for _, i := range set[:k] {
			if plainOverlap(l[i], l[j]) {
				return false
			}
		}
	}
	return true
}

// subsets returns all sets of the numbers before a number.
func subsets(before int) [][]int {
	out := [][]int{nil}
	for n := range before {
		for _, set := range out {
			out = append(out, append(slices.Clone(set), n))
		}
	}
	return out
}

// overlapping returns, for each shift, the bits of the shifts with a common moment.
func overlapping(l []api.Shift) []int {
	out := make([]int, len(l))
	for _, running := range plainRunning(l) {
		for _, i := range running {
			for _, j := range running {
				out[i] |= 1 << j
			}
		}
	}
	return out
}

// plainBest goes through all sets of shifts that are alone, for the greatest number and the greatest sum of Pay.
func plainBest(l []api.Shift) (most, pay int) {
	others := overlapping(l)
	for bits := range 1 << len(l) {
		count, sum, alone := 0, 0, true
		for i, s := range l {
			if bits>>i&1 == 1 {
				count, sum = count+1, sum+s.Pay
				alone = alone && bits&others[i] == 1<<i
			}
		}
		if alone {
			most, pay = max(most, count), max(pay, sum)
		}
	}
	return most, pay
}

// plainLooksIn reports whether each shift runs at one of the moments.
func plainLooksIn(l []api.Shift, moments []int) bool {
	for _, s := range l {
		seen := false
		for m := s.From; m < s.To; m++ {
			seen = seen || slices.Contains(moments, m)
		}
		if !seen {
			return false
		}
	}
	return true
}

// plainPays adds up the posts, and reports whether they pay each shift.
func plainPays(l []api.Shift, posts []api.Post) (int, bool) {
	var at [api.MaxTime + 1]int
	sum := 0
	for _, p := range posts {
		at[p.Moment] += p.Pay
		sum += p.Pay
	}
	for _, s := range l {
		pay := 0
		for m := s.From; m < s.To; m++ {
			pay += at[m]
		}
		if pay < s.Pay {
			return 0, false
		}
	}
	return sum, true
}

func isPlainSet(list []int, greatest int) bool {
	for i, n := range list {
		if n < 0 || n > greatest || i > 0 && list[i-1] >= n {
			return false
		}
	}
	return true
}

func TestP43CheckAlone(t *testing.T) {
	for _, x := range []struct {
		set  []int
		want api.Errno
	}{
		{[]int{2, 0}, api.ErrArg},
		{[]int{0, 0}, api.ErrArg},
		{[]int{0, 2, 2}, api.ErrArg},
		{[]int{-1}, api.ErrArg},
		{[]int{-1, 0}, api.ErrArg},
		{[]int{3}, api.ErrArg},
		{[]int{0, 3}, api.ErrArg},
		{[]int{0, math.MaxInt}, api.ErrArg},
		{[]int{math.MinInt, 0}, api.ErrArg},
		{[]int{0, 1, 2, 3}, api.ErrArg},
		// The whole set is examined for ErrArg before it is judged.
		{[]int{0, 1, 3}, api.ErrArg},
		{[]int{1, 0}, api.ErrArg},
		{[]int{0, 1}, api.ErrRule},
		{[]int{1, 2}, api.ErrRule},
		{[]int{0, 1, 2}, api.ErrRule},
	} {
		n, e := CheckAlone(three(), x.set)
		wantRefused(t, "CheckAlone", n == 0, e, x.want)
	}
	n, e := CheckAlone(nil, []int{0})
	wantRefused(t, "CheckAlone without shifts", n == 0, e, api.ErrArg)
	n, e = CheckAlone(nil, nil)
	wantNumber(t, "CheckAlone of nothing", n, e, 0)
	n, e = CheckAlone(three(), []int{})
	wantNumber(t, "CheckAlone of none", n, e, 0)
	for _, l := range smallLists() {
		for _, set := range subsets(len(l)) {
			n, e := CheckAlone(l, set)
			if plainAlone(l, set) {
				wantNumber(t, "CheckAlone", n, e, len(set))
			} else {
				wantRefused(t, "CheckAlone", n == 0, e, api.ErrRule)
			}
		}
	}
}

func TestP43Alone(t *testing.T) {
	for _, l := range append(allLists(), nil, three(), most(0, 1000, 99), most(999, 1000, 0)) {
		set, e := Alone(l)
		most, _ := plainBest(l)
		if e != api.OK || !isPlainSet(set, len(l)-1) || !plainAlone(l, set) || len(set) != most {
			t.Errorf("Alone %v: %v %v, want %v", l, set, e, most)
		}
		n, e := CheckAlone(l, set)
		wantNumber(t, "CheckAlone of Alone", n, e, most)
	}
}

func TestP43CheckMoments(t *testing.T) {
	for _, x := range []struct {
		moments []int
		want    api.Errno
	}{
		{[]int{4, 2}, api.ErrArg},
		{[]int{2, 2, 4}, api.ErrArg},
		{[]int{-1, 2, 4}, api.ErrArg},
		{[]int{2, 4, api.MaxTime + 1}, api.ErrArg},
		{[]int{2, 4, math.MaxInt}, api.ErrArg},
		{[]int{math.MinInt, 2, 4}, api.ErrArg},
		// The whole set is examined for ErrArg before it is judged.
		{[]int{9, api.MaxTime + 1}, api.ErrArg},
		{[]int{9, 8}, api.ErrArg},
		{nil, api.ErrRule},
		{[]int{3}, api.ErrRule},
		{[]int{0, 7}, api.ErrRule},
		{[]int{3, 8}, api.ErrRule},
		{[]int{4, 1000}, api.ErrRule},
	} {
		n, e := CheckMoments(three(), x.moments)
		wantRefused(t, "CheckMoments", n == 0, e, x.want)
	}
	all := make([]int, api.MaxTime+1)
	for m := range all {
		all[m] = m
	}
	for _, l := range [][]api.Shift{nil, three(), most(0, 1000, 0), shifts(999, 1000, 0)} {
		n, e := CheckMoments(l, all)
		wantNumber(t, "CheckMoments of all", n, e, api.MaxTime+1)
	}
	n, e := CheckMoments(nil, nil)
	wantNumber(t, "CheckMoments of nothing", n, e, 0)
	n, e = CheckMoments(shifts(0, 1, 0, 999, 1000, 0), []int{0, 999})
	wantNumber(t, "CheckMoments of the first and the last", n, e, 2)
	n, e = CheckMoments(shifts(0, 1, 0, 999, 1000, 0), []int{0, 1000})
	wantRefused(t, "CheckMoments after the last", n == 0, e, api.ErrRule)
}

// TestP43AllMoments holds CheckMoments and Moments against all moments of small lists.
func TestP43AllMoments(t *testing.T) {
	sets := subsets(smallTime + 1)
	for _, l := range smallLists() {
		fewest := len(l)
		for _, moments := range sets {
			n, e := CheckMoments(l, moments)
			if plainLooksIn(l, moments) {
				wantNumber(t, "CheckMoments", n, e, len(moments))
				fewest = min(fewest, len(moments))
			} else {
				wantRefused(t, "CheckMoments", n == 0, e, api.ErrRule)
			}
		}
		wantMoments(t, l, fewest)
	}
}

func wantMoments(t *testing.T, l []api.Shift, want int) {
	t.Helper()
	moments, e := Moments(l)
	if e != api.OK || !isPlainSet(moments, api.MaxTime) || !plainLooksIn(l, moments) || len(moments) != want {
		t.Errorf("Moments %v: %v %v, want %v", l, moments, e, want)
	}
	n, e := CheckMoments(l, moments)
	wantNumber(t, "CheckMoments of Moments", n, e, want)
}

// TestS4Moments checks the consequence: as many moments are needed as shifts can be kept alone.
func TestS4Moments(t *testing.T) {
	for _, l := range append(allLists(), nil, three(), most(0, 1000, 99), most(999, 1000, 0)) {
		alone, _ := plainBest(l)
		wantMoments(t, l, alone)
	}
}

func TestP43Examples(t *testing.T) {
	set, e := Alone(three())
	wantList(t, "example 1", set, e, 0, 2)
	n, e := CheckMoments(three(), []int{2, 4})
	wantNumber(t, "example 1", n, e, 2)
	wantMoments(t, three(), 2)
}

func TestP44Earn(t *testing.T) {
	lists := append(allLists(), nil, []api.Shift{}, three(), most(0, 1000, 99), most(0, 1, 0), shifts(0, 4, 3, 2, 6, 9, 4, 8, 3), shifts(0, 4, 3, 2, 6, 6, 4, 8, 3))
	for _, l := range lists {
		set, sum, e := Earn(l)
		_, want := plainBest(l)
		pay := 0
		for _, i := range set {
			pay += l[i].Pay
		}
		if e != api.OK || !isPlainSet(set, len(l)-1) || !plainAlone(l, set) || sum != want || pay != want {
			t.Errorf("Earn %v: %v %v %v, want %v", l, set, sum, e, want)
		}
	}
}

// each returns shifts that do not overlap, with the greatest Pay.
func each() []api.Shift {
	var l []api.Shift
	for i := range api.MaxShifts {
		l = append(l, api.Shift{From: i, To: i + 1, Pay: api.MaxPay})
	}
	return l
}

func TestP44EarnMost(t *testing.T) {
	set, sum, e := Earn(each())
	wantList(t, "Earn of all", set, e, 0, 1, 2, 3, 4, 5, 6, 7, 8, 9, 10, 11)
	wantNumber(t, "Earn of all", sum, e, api.MaxShifts*api.MaxPay)
	l := each()
	slices.Reverse(l)
	set, sum, e = Earn(l)
	wantList(t, "Earn of all backwards", set, e, 0, 1, 2, 3, 4, 5, 6, 7, 8, 9, 10, 11)
	wantNumber(t, "Earn of all backwards", sum, e, api.MaxShifts*api.MaxPay)
}

func TestP44CheckPosts(t *testing.T) {
	right := []api.Post{{Moment: 2, Pay: 3}, {Moment: 4, Pay: 3}}
	long := slices.Repeat([]api.Post{{Moment: 3, Pay: 1188}, {Moment: 5, Pay: 1188}}, 6)
	for i, x := range []struct {
		posts []api.Post
		want  api.Errno
	}{
		{append(long, api.Post{}), api.ErrLarge},
		{make([]api.Post, api.MaxShifts+1), api.ErrLarge},
		// Too many posts are refused before they are looked at.
		{slices.Repeat([]api.Post{{Moment: -1, Pay: -1}}, api.MaxShifts+1), api.ErrLarge},
		{append(right[:2:2], api.Post{Moment: -1}), api.ErrArg},
		{append(right[:2:2], api.Post{Moment: 1001}), api.ErrArg},
		{append(right[:2:2], api.Post{Pay: -1}), api.ErrArg},
		{append(right[:2:2], api.Post{Pay: 1189}), api.ErrArg},
		{append(right[:2:2], api.Post{Moment: math.MinInt}), api.ErrArg},
		{append(right[:2:2], api.Post{Moment: math.MaxInt}), api.ErrArg},
		{append(right[:2:2], api.Post{Pay: math.MinInt}), api.ErrArg},
		{append(right[:2:2], api.Post{Pay: math.MaxInt}), api.ErrArg},
		{[]api.Post{{Pay: -1}, right[0], right[1]}, api.ErrArg},
		// All posts are examined for ErrArg before they are judged.
		{[]api.Post{right[0], {Pay: -1}}, api.ErrArg},
		{[]api.Post{{Moment: 9, Pay: 1}, {Moment: 1001}}, api.ErrArg},
		{nil, api.ErrRule},
		{right[:1], api.ErrRule},
		{right[1:], api.ErrRule},
		{[]api.Post{{Moment: 3, Pay: 5}, {Moment: 8, Pay: 3}}, api.ErrRule},
		{[]api.Post{{Moment: 1, Pay: 3}, {Moment: 4, Pay: 3}}, api.ErrRule},
		{[]api.Post{{Moment: 2, Pay: 2}, {Moment: 4, Pay: 3}}, api.ErrRule},
	} {
		n, e := CheckPosts(three(), x.posts)
		if n != 0 || e != x.want {
			t.Errorf("CheckPosts %d: %v %v, want %v", i, n, e, x.want)
		}
	}
	n, e := CheckPosts(three(), right)
	wantNumber(t, "example 2", n, e, 6)
	n, e = CheckPosts(three(), []api.Post{right[1], right[0]})
	wantNumber(t, "CheckPosts in any order", n, e, 6)
	n, e = CheckPosts(three(), long)
	wantNumber(t, "CheckPosts of the greatest", n, e, 12*1188)
	n, e = CheckPosts(three(), []api.Post{{Moment: 4, Pay: 1}, {Moment: 4, Pay: 2}, {Moment: 3, Pay: 3}, {Moment: 1000, Pay: 7}, {}})
	wantNumber(t, "CheckPosts at one moment", n, e, 13)
	n, e = CheckPosts(nil, nil)
	wantNumber(t, "CheckPosts of nothing", n, e, 0)
	n, e = CheckPosts(most(0, 1000, 0), nil)
	wantNumber(t, "CheckPosts of no pay", n, e, 0)
	n, e = CheckPosts(most(0, 1000, 99), []api.Post{{Moment: 0, Pay: 99}})
	wantNumber(t, "CheckPosts of one for all", n, e, 99)
}

// smallPosts returns all posts at the moments of small lists with a Pay from 0 to the greatest.
func smallPosts(greatest int) [][]api.Post {
	out := [][]api.Post{nil}
	for m := range smallTime {
		var next [][]api.Post
		for _, p := range out {
			for pay := range greatest + 1 {
				next = append(next, append(slices.Clone(p), api.Post{Moment: m, Pay: pay}))
			}
		}
		out = next
	}
	return out
}

// TestP44AllPosts holds CheckPosts and Posts against all posts of small lists.
func TestP44AllPosts(t *testing.T) {
	all := smallPosts(3)
	for _, l := range append(append(listsOf(1, 0, 1, 2, 3), listsOf(2, 0, 1, 2, 3)...), listsOf(3, 1, 3)...) {
		smallest := len(l) * 3
		for _, posts := range all {
			n, e := CheckPosts(l, posts)
			if sum, ok := plainPays(l, posts); ok {
				wantNumber(t, "CheckPosts", n, e, sum)
				smallest = min(smallest, sum)
			} else {
				wantRefused(t, "CheckPosts", n == 0, e, api.ErrRule)
			}
		}
		wantPosts(t, l, smallest)
	}
}

func wantPosts(t *testing.T, l []api.Shift, want int) {
	t.Helper()
	posts, e := Posts(l)
	sum, ok := plainPays(l, posts)
	if e != api.OK || len(posts) > api.MaxShifts || !ok || sum != want {
		t.Errorf("Posts %v: %v %v, want %v", l, posts, e, want)
	}
	for _, p := range posts {
		if p.Moment < 0 || p.Moment > api.MaxTime || p.Pay < 0 || p.Pay > api.MaxShifts*api.MaxPay {
			t.Errorf("Posts %v: %v", l, posts)
		}
	}
	n, e := CheckPosts(l, posts)
	wantNumber(t, "CheckPosts of Posts", n, e, want)
}

// TestS4Posts checks the consequence: the smallest sum of posts is the greatest one of shifts that are alone, so no other posts can be cheaper.
func TestS4Posts(t *testing.T) {
	for _, l := range append(allLists(), nil, three(), each(), most(0, 1000, 99), most(999, 1000, 0)) {
		_, earn := plainBest(l)
		wantPosts(t, l, earn)
	}
}

func TestP44Examples(t *testing.T) {
	set, sum, e := Earn(three())
	wantList(t, "example 2", set, e, 0, 2)
	wantNumber(t, "example 2", sum, e, 6)
	wantPosts(t, three(), 6)
}
