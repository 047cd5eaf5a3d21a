package echo

import (
	"math"
	"slices"
	"testing"

	"diaphone/api"
)

// rowsFrom returns all rows of so many places from 0 to the greatest, both among them, in ascending order.
func rowsFrom(count, greatest int) [][]int {
	if count == 1 && greatest == 0 {
		return [][]int{{0}}
	}
	var rows [][]int
	if count > 1 {
		for before := range greatest {
			for _, row := range rowsFrom(count-1, before) {
				rows = append(rows, append(row, greatest))
			}
		}
	}
	slices.SortFunc(rows, slices.Compare)
	return rows
}

// plainAll goes through all rows from 0 to the greatest delay.
func plainAll(delays []int) [][]int {
	count, greatest := 1, 0
	for count*(count-1)/2 < len(delays) {
		count++
	}
	if len(delays) > 0 {
		greatest = delays[len(delays)-1]
	}
	var out [][]int
	for _, row := range rowsFrom(count, greatest) {
		if slices.Equal(row, plainNormal(row)) && slices.Equal(plainDelays(row), delays) {
			out = append(out, row)
		}
	}
	return out
}

// claims returns all lists of so many numbers from 1 to the greatest, in ascending order, equal ones among them.
func claims(count, greatest int) [][]int {
	out := [][]int{nil}
	for range count {
		var next [][]int
		for _, l := range out {
			from := 1
			if len(l) > 0 {
				from = l[len(l)-1]
			}
			for d := from; d <= greatest; d++ {
				next = append(next, append(slices.Clone(l), d))
			}
		}
		out = next
	}
	return out
}

func invalidDelays() []refused {
	out := []refused{
		{slices.Repeat([]int{1}, api.MaxDelays+1), api.ErrLarge},
		{make([]int, api.MaxDelays+1), api.ErrLarge},
		{slices.Repeat([]int{1}, 21), api.ErrLarge},
		{slices.Repeat([]int{99}, 100), api.ErrLarge},
	}
	for count := range api.MaxDelays + 1 {
		if !slices.Contains([]int{0, 1, 3, 6, 10, 15}, count) {
			out = append(out, refused{slices.Repeat([]int{2}, count), api.ErrArg})
		}
	}
	for _, l := range [][]int{
		{0}, {-1}, {61}, {math.MaxInt}, {math.MinInt}, {0, 1, 1}, {1, 1, 61}, {4, 3, 1}, {1, 4, 3}, {3, 1, 4}, {2, 2, 1},
		{math.MinInt, 1, 1}, {-1, 1, 2}, {1, 1, math.MaxInt}, {1, 1, 2, 3, 4, 3}, {0, 1, 2, 3, 3, 4},
		{1, 1, 1, 1, 1, 2, 2, 2, 2, 3, 3, 3, 4, 4, 61}, {1, 1, 1, 1, 1, 2, 2, 2, 2, 3, 3, 3, 4, 5, 4},
	} {
		out = append(out, refused{l, api.ErrArg})
	}
	return out
}

func TestP51ClaimedDelays(t *testing.T) {
	cliffs := append([][]int{{0}, {0, 1}, {0, 1, 4}}, [][]int{nil, {1, 0}, {0, 61}}...)
	for _, x := range invalidDelays() {
		c, ok, e := Find(x.c)
		wantRefused(t, "Find", len(c) == 0 && !ok, e, x.want)
		all, e := All(x.c)
		wantRefused(t, "All", len(all) == 0, e, x.want)
		// The errors of the delays come before those of the cliffs, and before ErrProof.
		for _, c := range cliffs {
			wantRefused(t, "CheckCliffs", true, CheckCliffs(x.c, c), x.want)
		}
	}
	for _, delays := range [][]int{nil, {}, {1}, {60}, {60, 60, 60}, {1, 1, 1}, slices.Repeat([]int{60}, 15), slices.Repeat([]int{1}, 10)} {
		if _, _, e := Find(delays); e != api.OK {
			t.Errorf("Find %v: %v", delays, e)
		}
		if _, e := All(delays); e != api.OK {
			t.Errorf("All %v: %v", delays, e)
		}
	}
}

func TestP53CheckCliffs(t *testing.T) {
	list := append(smallCliffs(), edgeCliffs()...)
	for _, c := range list {
		delays := plainDelays(c)
		for _, d := range list {
			want := api.ErrProof
			if slices.Equal(plainDelays(d), delays) {
				want = api.OK
			}
			if e := CheckCliffs(delays, d); e != want {
				t.Errorf("CheckCliffs %v %v: %v, want %v", delays, d, e, want)
			}
		}
	}
	for _, x := range []struct {
		delays, c []int
		want      api.Errno
	}{
		{nil, []int{9}, api.OK},
		{[]int{1}, []int{9}, api.ErrProof},
		{nil, []int{8, 9}, api.ErrProof},
		{[]int{1, 3, 4}, []int{2, 5, 6}, api.OK},
		{[]int{1, 3, 4}, []int{0, 2, 4}, api.ErrProof},
		{[]int{1, 1, 1}, []int{0, 1, 2}, api.ErrProof},
		{[]int{1, 1, 2}, []int{0, 1, 2}, api.OK},
		{[]int{1, 2, 2}, []int{0, 1, 2}, api.ErrProof},
		{[]int{1}, nil, api.ErrLarge},
		{[]int{1}, []int{1, 0}, api.ErrArg},
	} {
		if e := CheckCliffs(x.delays, x.c); e != x.want {
			t.Errorf("CheckCliffs %v %v: %v, want %v", x.delays, x.c, e, x.want)
		}
	}
}

func wantAll(t *testing.T, delays []int, want ...[]int) {
	t.Helper()
	all, e := All(delays)
	if !slices.EqualFunc(all, want, slices.Equal) || e != api.OK {
		t.Errorf("All %v: %v %v, want %v", delays, all, e, want)
	}
	c, ok, e := Find(delays)
	if len(want) == 0 {
		want = [][]int{nil}
	}
	if ok != (len(all) > 0) || !slices.Equal(c, want[0]) || e != api.OK {
		t.Errorf("Find %v: %v %v %v, want %v", delays, c, ok, e, want[0])
	}
}

// TestP53AllClaims holds All and Find against all rows, for all delays that may be claimed up to some greatest one.
func TestP53AllClaims(t *testing.T) {
	lists := append(claims(0, 60), claims(1, 60)...)
	lists = append(lists, claims(3, 20)...)
	lists = append(lists, claims(6, 7)...)
	lists = append(lists, claims(10, 5)...)
	lists = append(lists, claims(15, 5)...)
	for _, delays := range lists {
		wantAll(t, delays, plainAll(delays)...)
	}
}

// TestP53AllRows holds All and Find against all rows up to some greatest place.
func TestP53AllRows(t *testing.T) {
	for count := 1; count <= api.MaxCliffs; count++ {
		for greatest := range 13 {
			rows := rowsFrom(count, greatest)
			delays := make([][]int, len(rows))
			for i, row := range rows {
				delays[i] = plainDelays(row)
			}
			for i := range rows {
				var want [][]int
				for j, row := range rows {
					if slices.Equal(delays[i], delays[j]) && slices.Equal(row, plainNormal(row)) {
						want = append(want, row)
					}
				}
				wantAll(t, delays[i], want...)
			}
		}
	}
}

// TestP53NormalIsAmongAll checks the consequence, also with great delays.
func TestP53NormalIsAmongAll(t *testing.T) {
	for _, c := range allCliffs() {
		delays := plainDelays(c)
		all, e := All(delays)
		normal := plainNormal(c)
		if !slices.ContainsFunc(all, func(row []int) bool { return slices.Equal(row, normal) }) || e != api.OK {
			t.Errorf("All %v: %v %v, without %v", delays, all, e, normal)
		}
		for i, row := range all {
			if !slices.Equal(plainDelays(row), delays) || !slices.Equal(plainNormal(row), row) || i > 0 && slices.Compare(all[i-1], row) >= 0 {
				t.Errorf("All %v: %v", delays, all)
			}
		}
		found, ok, e := Find(delays)
		if !ok || e != api.OK || !slices.Equal(found, all[0]) {
			t.Errorf("Find %v: %v %v %v", delays, found, ok, e)
		}
	}
}

func TestP53Examples(t *testing.T) {
	wantAll(t, []int{1, 3, 4}, []int{0, 1, 4})
	wantAll(t, nil, []int{0})
	wantAll(t, []int{60}, []int{0, 60})
	wantAll(t, []int{1, 1, 1})
	wantAll(t, []int{1, 2, 4})
	wantAll(t, []int{60, 60, 60})
	wantAll(t, slices.Repeat([]int{60}, 15))
	wantAll(t, slices.Repeat([]int{1}, 15))
	wantAll(t, []int{30, 30, 60}, []int{0, 30, 60})
	wantAll(t, []int{1, 1, 2, 3, 3, 4}, []int{0, 1, 3, 4})
	wantAll(t, plainDelays([]int{0, 1, 4, 10, 12, 17}), []int{0, 1, 4, 10, 12, 17}, []int{0, 1, 8, 11, 13, 17})
	for _, c := range [][]int{{0, 1, 4, 10, 12, 30}, {0, 6, 12, 18, 24, 30}, {0, 11, 16, 22, 29, 30}} {
		delays := plainDelays(c)
		wantAll(t, delays, plainAll(delays)...)
	}
}

// plainShortest goes through all rows, the ones with the smallest greatest place first.
func plainShortest(count int) []int {
	for greatest := 0; ; greatest++ {
		for _, row := range rowsFrom(count, greatest) {
			d := plainDelays(row)
			if len(slices.Compact(slices.Clone(d))) == len(d) && slices.Equal(row, plainNormal(row)) {
				return row
			}
		}
	}
}

func TestP54Shortest(t *testing.T) {
	for n := 1; n <= 5; n++ {
		l, e := Shortest(n)
		wantList(t, "Shortest", l, e, plainShortest(n)...)
		is, e := IsRuler(l)
		wantReport(t, "IsRuler of Shortest", is, e, true)
	}
	l, e := Shortest(4)
	wantList(t, "example 3", l, e, 0, 1, 4, 6)
	for _, n := range []int{0, -1, 6, 7, 100, math.MinInt, math.MaxInt} {
		l, e := Shortest(n)
		wantRefused(t, "Shortest", len(l) == 0, e, api.ErrArg)
	}
}

// TestEqualCalls checks that a result is the same each time (R11), and its own memory.
func TestEqualCalls(t *testing.T) {
	for n := 1; n <= 5; n++ {
		l, _ := Shortest(n)
		before := slices.Clone(l)
		l[0] = 77
		again, e := Shortest(n)
		wantList(t, "Shortest again", again, e, before...)
	}
	for _, c := range edgeCliffs() {
		delays := plainDelays(c)
		l, _, _ := Find(delays)
		before := slices.Clone(l)
		l[0] = 77
		again, _, e := Find(delays)
		wantList(t, "Find again", again, e, before...)
	}
}
