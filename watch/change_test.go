package watch

import (
	"math"
	"slices"
	"testing"

	"diaphone/api"
)

// plainSpells goes through all moments and keeps those between which none is without a shift.
func plainSpells(l []api.Shift) (spells []api.Shift, covered int) {
	open := false
	for m, running := range plainRunning(l) {
		if len(running) == 0 {
			open = false
			continue
		}
		covered++
		if !open {
			spells = append(spells, api.Shift{From: m})
		}
		open = true
		spells[len(spells)-1].To = m + 1
	}
	return spells, covered
}

func TestP45CoveredSpells(t *testing.T) {
	lists := append(largeLists(200), nil, three(), most(0, 1000, 99), most(999, 1000, 5), shifts(0, 9, 1, 2, 3, 1, 9, 10, 1, 11, 12, 1))
	lists = append(lists, shifts(0, 1, 0, 999, 1000, 0), shifts(500, 1000, 1, 0, 500, 2))
	lists = append(lists, smallLists()...)
	for _, l := range lists {
		spells, covered := plainSpells(l)
		s, e := Spells(l)
		wantShifts(t, "Spells", s, e, spells...)
		n, e := Covered(l)
		wantNumber(t, "Covered", n, e, covered)
		// Consequence: Spells are alone, and cover as much.
		if _, most := plainPeak(s); most > 1 {
			t.Errorf("Spells %v: %v overlap", l, s)
		}
		n, e = Covered(s)
		wantNumber(t, "Covered by Spells", n, e, covered)
	}
}

func TestP45Examples(t *testing.T) {
	s, e := Spells(shifts(0, 2, 7, 2, 3, 0, 5, 6, 9))
	wantShifts(t, "example 3", s, e, shifts(0, 3, 0, 5, 6, 0)...)
	s, e = Spells(shifts(5, 6, 9, 2, 3, 0, 0, 2, 7))
	wantShifts(t, "example 3 backwards", s, e, shifts(0, 3, 0, 5, 6, 0)...)
}

// measures returns what Mirror does not change.
func measures(t *testing.T, l []api.Shift) [4]int {
	t.Helper()
	_, most, a := Peak(l)
	alone, b := Alone(l)
	_, earn, c := Earn(l)
	covered, d := Covered(l)
	if a != api.OK || b != api.OK || c != api.OK || d != api.OK {
		t.Errorf("%v: %v %v %v %v", l, a, b, c, d)
	}
	return [4]int{most, len(alone), earn, covered}
}

func TestP45Mirror(t *testing.T) {
	m, e := Mirror(shifts(0, 1, 3, 999, 1000, 4, 0, 1000, 5, 499, 501, 6, 2, 7, 8))
	wantShifts(t, "Mirror", m, e, shifts(999, 1000, 3, 0, 1, 4, 0, 1000, 5, 499, 501, 6, 993, 998, 8)...)
	m, e = Mirror(nil)
	wantShifts(t, "Mirror of nothing", m, e)
	for _, l := range allLists() {
		m, e := Mirror(l)
		if e != api.OK || measures(t, l) != measures(t, m) {
			t.Errorf("Mirror %v: %v %v", l, m, e)
		}
		again, e := Mirror(m)
		wantShifts(t, "Mirror of Mirror", again, e, l...)
	}
}

func TestP45Without(t *testing.T) {
	l, e := Without(three(), 0)
	wantShifts(t, "Without", l, e, shifts(2, 6, 5, 4, 8, 3)...)
	l, e = Without(three(), 1)
	wantShifts(t, "Without", l, e, shifts(0, 4, 3, 4, 8, 3)...)
	l, e = Without(three(), 2)
	wantShifts(t, "Without", l, e, shifts(0, 4, 3, 2, 6, 5)...)
	l, e = Without(shifts(1, 2, 3), 0)
	wantShifts(t, "Without the only one", l, e)
	for _, l := range largeLists(50) {
		before := measures(t, l)
		for i := range l {
			w, e := Without(l, i)
			want := append(slices.Clone(l[:i]), l[i+1:]...)
			wantShifts(t, "Without", w, e, want...)
			for k, n := range measures(t, w) {
				if n > before[k] {
					t.Errorf("%v without %v: measure %v grows from %v to %v", l, i, k, before[k], n)
				}
			}
		}
	}
}

func TestP45Stretch(t *testing.T) {
	for _, x := range []struct{ i, by, to int }{{0, 0, 4}, {0, 1, 5}, {0, -3, 1}, {0, 996, 1000}, {1, -3, 3}, {1, 994, 1000}, {2, -3, 5}, {2, 992, 1000}} {
		want := three()
		want[x.i].To = x.to
		l, e := Stretch(three(), x.i, x.by)
		wantShifts(t, "Stretch", l, e, want...)
	}
	for _, x := range [][2]int{{0, -4}, {0, 997}, {1, -4}, {1, 995}, {2, -4}, {2, 993}, {2, -8}, {0, -5}, {0, 1000}, {0, 1001}, {0, -1000}, {0, -1001}, {1, math.MaxInt}, {1, math.MinInt}, {2, math.MaxInt - 7}, {0, math.MinInt + 4}} {
		l, e := Stretch(three(), x[0], x[1])
		wantRefused(t, "Stretch", len(l) == 0, e, api.ErrArg)
	}
	l, e := Stretch(shifts(0, 1, 7), 0, 999)
	wantShifts(t, "Stretch at most", l, e, shifts(0, 1000, 7)...)
	l, e = Stretch(shifts(0, 1000, 7), 0, -999)
	wantShifts(t, "Stretch at least", l, e, shifts(0, 1, 7)...)
}
