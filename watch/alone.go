package watch

import (
	"slices"

	"diaphone/api"
)

// isSet reports whether the numbers are in strictly ascending order and from 0 to the greatest.
func isSet(numbers []int, greatest int) bool {
	last := -1
	for _, n := range numbers {
		if n <= last || n > greatest {
			return false
		}
		last = n
	}
	return true
}

// CheckAlone: see P4.3.
func CheckAlone(l []api.Shift, set []int) (int, api.Errno) {
	if e := Validate(l); e != api.OK {
		return 0, e
	}
	if !isSet(set, len(l)-1) {
		return 0, api.ErrArg
	}
	for i, j := range overlaps(l) {
		if slices.Contains(set, i) && slices.Contains(set, j) {
			return 0, api.ErrRule
		}
	}
	return len(set), api.OK
}

// CheckMoments: see P4.3.
func CheckMoments(l []api.Shift, moments []int) (int, api.Errno) {
	if e := Validate(l); e != api.OK {
		return 0, e
	}
	if !isSet(moments, api.MaxTime) {
		return 0, api.ErrArg
	}
	for _, s := range l {
		if !slices.ContainsFunc(moments, func(m int) bool { return runs(s, m) }) {
			return 0, api.ErrRule
		}
	}
	return len(moments), api.OK
}

// rests takes, by their ends, the shifts of which the rests before leave some pay, with what is left of it as Pay. A rest is paid at the last moment of its shift: each later shift that overlaps it runs then.
func rests(l []api.Shift) []numbered {
	var out []numbered
	for s := range inOrder(l, numbered.compareTo) {
		for _, before := range out {
			if overlap(before.Shift, s.Shift) {
				s.Pay -= before.Pay
			}
		}
		if s.Pay > 0 {
			out = append(out, s)
		}
	}
	return out
}

// chosen takes the rests that are alone, from the last one on. No rest is lost by that: of one that is not taken, just one of those taken has taken it off its pay, since two of them would overlap at its last moment. So the pay of the set is the sum of the rests, and neither can be better.
func chosen(left []numbered) []int {
	var set []int
	begin := api.MaxTime
	for _, s := range slices.Backward(left) {
		if s.To <= begin {
			set = append(set, s.number)
			begin = s.From
		}
	}
	slices.Sort(set)
	return set
}

// paidAlike returns the shifts with the Pay 1: then the set that earns the most is the largest one, and the posts are the fewest moments.
func paidAlike(l []api.Shift) []api.Shift {
	out := slices.Clone(l)
	for i := range out {
		out[i].Pay = 1
	}
	return out
}

// Alone: see P4.3.
func Alone(l []api.Shift) ([]int, api.Errno) {
	if e := Validate(l); e != api.OK {
		return nil, e
	}
	return chosen(rests(paidAlike(l))), api.OK
}

// Moments: see P4.3.
func Moments(l []api.Shift) ([]int, api.Errno) {
	if e := Validate(l); e != api.OK {
		return nil, e
	}
	var moments []int
	for _, p := range posts(paidAlike(l)) {
		moments = append(moments, p.Moment)
	}
	return moments, api.OK
}

// Earn: see P4.4.
func Earn(l []api.Shift) ([]int, int, api.Errno) {
	if e := Validate(l); e != api.OK {
		return nil, 0, e
	}
	set := chosen(rests(l))
	sum := 0
	for _, i := range set {
		sum += l[i].Pay
	}
	return set, sum, api.OK
}

// CheckPosts: see P4.4.
func CheckPosts(l []api.Shift, posts []api.Post) (int, api.Errno) {
	if e := Validate(l); e != api.OK {
		return 0, e
	}
	if len(posts) > api.MaxShifts {
		return 0, api.ErrLarge
	}
	sum := 0
	for _, p := range posts {
		if p.Moment < 0 || p.Moment > api.MaxTime || p.Pay < 0 || p.Pay > api.MaxShifts*api.MaxPay {
			return 0, api.ErrArg
		}
		sum += p.Pay
	}
	for _, s := range l {
		if paid(s, posts) < s.Pay {
			return 0, api.ErrRule
		}
	}
	return sum, api.OK
}

func paid(s api.Shift, posts []api.Post) int {
	sum := 0
	for _, p := range posts {
		if runs(s, p.Moment) {
			sum += p.Pay
		}
	}
	return sum
}

// Posts: see P4.4.
func Posts(l []api.Shift) ([]api.Post, api.Errno) {
	if e := Validate(l); e != api.OK {
		return nil, e
	}
	return posts(l), api.OK
}

func posts(l []api.Shift) []api.Post {
	var out []api.Post
	for _, s := range rests(l) {
		out = append(out, api.Post{Moment: s.To - 1, Pay: s.Pay})
	}
	return out
}
