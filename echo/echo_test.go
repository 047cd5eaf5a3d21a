package echo

import (
	"math"
	"slices"
	"testing"

	"diaphone/api"
)

// smallCliffs returns all cliffs with places from -3 to 4.
func smallCliffs() [][]int {
	var out [][]int
	for bits := 1; bits < 1<<8; bits++ {
		var c []int
		for k := range 8 {
			if bits>>k&1 == 1 {
				c = append(c, k-3)
			}
		}
		if len(c) <= api.MaxCliffs {
			out = append(out, c)
		}
	}
	return out
}

// largeCliffs returns cliffs with places from all that there may be, the same ones each time.
func largeCliffs(count int) [][]int {
	state := uint32(1)
	upTo := func(n int) int {
		state = state*1664525 + 1013904223
		return int(state>>16) % (n + 1)
	}
	var out [][]int
	for i := range count {
		length := []int{api.MaxPlace, 12, 25, 7}[i%4]
		first := upTo(2*api.MaxPlace-length) - api.MaxPlace
		var c []int
		for range 1 + i/4%api.MaxCliffs {
			c = append(c, first+upTo(length))
		}
		slices.Sort(c)
		out = append(out, slices.Compact(c))
	}
	return out
}

// edgeCliffs returns cliffs at the bounds.
func edgeCliffs() [][]int {
	return [][]int{
		{0}, {-60}, {60}, {-60, 0}, {0, 60}, {-30, 30}, {-1, 59}, {59, 60}, {-60, -59},
		{0, 1, 2, 3, 4, 60}, {-60, -59, -3, -2, -1, 0}, {55, 56, 57, 58, 59, 60}, {-60, -59, -58, -57, -56, -55},
		{0, 1, 4, 10, 12, 17}, {0, 1, 8, 11, 13, 17}, {0, 1, 4, 9, 15, 22}, {0, 12, 24, 36, 48, 60},
	}
}

func allCliffs() [][]int {
	return append(append(smallCliffs(), largeCliffs(400)...), edgeCliffs()...)
}

// refused is arguments that are not as they should be, and the error.
type refused struct {
	c    []int
	want api.Errno
}

func invalid() []refused {
	out := []refused{
		{nil, api.ErrLarge}, {[]int{}, api.ErrLarge},
		{[]int{0, 1, 2, 3, 4, 5, 6}, api.ErrLarge},
		{make([]int, 100), api.ErrLarge},
		// Also if no place is right.
		{[]int{99, 99, 98, 97, 96, 95, -94}, api.ErrLarge},
	}
	for _, c := range [][]int{
		{61}, {-61}, {math.MaxInt}, {math.MinInt}, {0, 61}, {-61, -60}, {-61, 0}, {0, 0}, {5, 4}, {-4, -5}, {60, 60},
		{-1, 60}, {-60, 1}, {-60, 60}, {-31, 30}, {-30, 0, 31}, {0, 2, 1}, {0, 1, 1}, {1, 0, 2}, {1, 1, 2},
		{math.MinInt, math.MaxInt}, {-60, math.MaxInt}, {math.MinInt, 60}, {math.MaxInt, math.MinInt},
		{-30, -20, -10, 0, 10, 31}, {0, 1, 2, 3, 4, 4}, {0, 1, 2, 3, 4, 61},
	} {
		out = append(out, refused{c, api.ErrArg})
	}
	return out
}

func wantRefused(t *testing.T, what string, zero bool, got, want api.Errno) {
	t.Helper()
	if got != want || !zero {
		t.Errorf("%s: error %v (other results zero: %v), want %v", what, got, zero, want)
	}
}

func wantList(t *testing.T, what string, got []int, e api.Errno, want ...int) {
	t.Helper()
	if !slices.Equal(got, want) || e != api.OK {
		t.Errorf("%s: %v %v, want %v", what, got, e, want)
	}
}

func wantReport(t *testing.T, what string, got bool, e api.Errno, want bool) {
	t.Helper()
	if got != want || e != api.OK {
		t.Errorf("%s: %v %v, want %v", what, got, e, want)
	}
}

// plainDelays looks, for each delay that there may be, for the places that are so far apart.
func plainDelays(c []int) []int {
	var out []int
	for d := 1; d <= api.MaxPlace; d++ {
		for _, place := range c {
			if slices.Contains(c, place+d) {
				out = append(out, d)
			}
		}
	}
	return out
}

// plainMirror looks, for each place between the ends, whether its mirror image is a cliff.
func plainMirror(c []int) []int {
	var out []int
	for place := c[0]; place <= c[len(c)-1]; place++ {
		if slices.Contains(c, c[0]+c[len(c)-1]-place) {
			out = append(out, place)
		}
	}
	return out
}

// plainNormal moves the cliffs and their mirror image to 0 and takes the first in ascending order.
func plainNormal(c []int) []int {
	var a, b []int
	for place := range api.MaxPlace + 1 {
		if slices.Contains(c, c[0]+place) {
			a = append(a, place)
		}
		if slices.Contains(c, c[len(c)-1]-place) {
			b = append(b, place)
		}
	}
	if slices.Compare(b, a) < 0 {
		return b
	}
	return a
}

func TestP51Validate(t *testing.T) {
	for _, x := range invalid() {
		if e := Validate(x.c); e != x.want {
			t.Errorf("Validate %v: %v, want %v", x.c, e, x.want)
		}
	}
	for _, c := range allCliffs() {
		if e := Validate(c); e != api.OK {
			t.Errorf("Validate %v: %v", c, e)
		}
	}
}

// lists are the functions that take cliffs and return a list; the other arguments have errors too, where they may.
func lists() map[string]func([]int) ([]int, api.Errno) {
	return map[string]func([]int) ([]int, api.Errno){
		"Delays": Delays, "Normal": Normal, "Mirror": Mirror, "Missing": Missing,
		"Heard":       func(c []int) ([]int, api.Errno) { return Heard(c, 0) },
		"Heard afar":  func(c []int) ([]int, api.Errno) { return Heard(c, 1001) },
		"Plus":        func(c []int) ([]int, api.Errno) { return Plus(c, []int{0}) },
		"Plus behind": func(c []int) ([]int, api.Errno) { return Plus([]int{0}, c) },
		"Plus itself": func(c []int) ([]int, api.Errno) { return Plus(c, c) },
		"Minus":       func(c []int) ([]int, api.Errno) { return Minus(c, []int{0}) },
		"Minus of":    func(c []int) ([]int, api.Errno) { return Minus([]int{0, 1}, c) },
		"Shift":       func(c []int) ([]int, api.Errno) { return Shift(c, 0) },
		"Shift far":   func(c []int) ([]int, api.Errno) { return Shift(c, math.MaxInt) },
		"Scale":       func(c []int) ([]int, api.Errno) { return Scale(c, 1) },
		"Scale by 0":  func(c []int) ([]int, api.Errno) { return Scale(c, 0) },
		"With":        func(c []int) ([]int, api.Errno) { return With(c, 7) },
		"With again":  func(c []int) ([]int, api.Errno) { return With(c, 0) },
		"With 99":     func(c []int) ([]int, api.Errno) { return With(c, 99) },
	}
}

func TestP51Errors(t *testing.T) {
	for _, x := range invalid() {
		for what, f := range lists() {
			l, e := f(x.c)
			wantRefused(t, what, len(l) == 0, e, x.want)
		}
		is, e := IsRuler(x.c)
		wantRefused(t, "IsRuler", !is, e, x.want)
		wantRefused(t, "CheckCliffs", true, CheckCliffs(nil, x.c), x.want)
		wantRefused(t, "CheckCliffs", true, CheckCliffs([]int{1}, x.c), x.want)
		for what, f := range map[string]func(c, d []int) (bool, api.Errno){"Same": Same, "Alike": Alike} {
			is, e := f(x.c, x.c)
			wantRefused(t, what, !is, e, x.want)
			for _, c := range smallCliffs()[:50] {
				is, e = f(x.c, c)
				wantRefused(t, what, !is, e, x.want)
				is, e = f(c, x.c)
				wantRefused(t, what, !is, e, x.want)
			}
		}
	}
}

// TestP51FirstArgument checks that all errors of the first cliffs come before those of the second ones (R2).
func TestP51FirstArgument(t *testing.T) {
	for _, x := range invalid() {
		for _, y := range invalid() {
			for what, f := range map[string]func(c, d []int) (bool, api.Errno){"Same": Same, "Alike": Alike} {
				is, e := f(x.c, y.c)
				wantRefused(t, what, !is, e, x.want)
			}
			for what, f := range map[string]func(c, d []int) ([]int, api.Errno){"Plus": Plus, "Minus": Minus} {
				l, e := f(x.c, y.c)
				wantRefused(t, what, len(l) == 0, e, x.want)
			}
		}
	}
}

func TestP52Delays(t *testing.T) {
	for _, c := range allCliffs() {
		l, e := Delays(c)
		wantList(t, "Delays", l, e, plainDelays(c)...)
		if n := len(c); len(l) != n*(n-1)/2 {
			t.Errorf("Delays %v: %v", c, l)
		}
	}
	l, e := Delays([]int{7})
	wantList(t, "Delays of one", l, e)
	l, e = Delays([]int{0, 12, 24, 36, 48, 60})
	wantList(t, "Delays that come often", l, e, 12, 12, 12, 12, 12, 24, 24, 24, 24, 36, 36, 36, 48, 48, 60)
}

func TestP52NormalMirror(t *testing.T) {
	for _, c := range allCliffs() {
		n, e := Normal(c)
		wantList(t, "Normal", n, e, plainNormal(c)...)
		again, e := Normal(n)
		wantList(t, "Normal of Normal", again, e, n...)
		m, e := Mirror(c)
		wantList(t, "Mirror", m, e, plainMirror(c)...)
		again, e = Mirror(m)
		wantList(t, "Mirror of Mirror", again, e, c...)
		again, e = Normal(m)
		wantList(t, "Normal of Mirror", again, e, n...)
	}
	for _, x := range []struct{ c, normal, mirror []int }{
		{[]int{5, 8, 9}, []int{0, 1, 4}, []int{5, 6, 9}},
		{[]int{-60, -57, 0}, []int{0, 3, 60}, []int{-60, -3, 0}},
		{[]int{0, 57, 60}, []int{0, 3, 60}, []int{0, 3, 60}},
		{[]int{-1, 0, 1}, []int{0, 1, 2}, []int{-1, 0, 1}},
		{[]int{60}, []int{0}, []int{60}},
		{[]int{0, 1, 3, 4, 9, 10}, []int{0, 1, 3, 4, 9, 10}, []int{0, 1, 6, 7, 9, 10}},
		{[]int{0, 1, 6, 7, 9, 10}, []int{0, 1, 3, 4, 9, 10}, []int{0, 1, 3, 4, 9, 10}},
	} {
		l, e := Normal(x.c)
		wantList(t, "Normal", l, e, x.normal...)
		l, e = Mirror(x.c)
		wantList(t, "Mirror", l, e, x.mirror...)
	}
}

func TestP52SameAlike(t *testing.T) {
	list := append(smallCliffs(), edgeCliffs()...)
	delays, normals := make([][]int, len(list)), make([][]int, len(list))
	for i, c := range list {
		delays[i], normals[i] = plainDelays(c), plainNormal(c)
	}
	for i, c := range list {
		for j, d := range list {
			same, e := Same(c, d)
			wantReport(t, "Same", same, e, slices.Equal(delays[i], delays[j]))
			alike, e := Alike(c, d)
			wantReport(t, "Alike", alike, e, slices.Equal(normals[i], normals[j]))
			if alike && !same {
				t.Errorf("%v and %v are alike, and not the same", c, d)
			}
		}
	}
}

// TestS5Mirror checks the consequence: cliffs and their mirror image have the same delays, and some cliffs that are not alike have, too.
func TestS5Mirror(t *testing.T) {
	for _, c := range allCliffs() {
		m, e := Mirror(c)
		if e != api.OK {
			t.Errorf("Mirror %v: %v", c, e)
		}
		is, e := Same(c, m)
		wantReport(t, "Same as Mirror", is, e, true)
		is, e = Alike(c, m)
		wantReport(t, "Alike Mirror", is, e, true)
	}
	c, d := []int{0, 1, 4, 10, 12, 17}, []int{0, 1, 8, 11, 13, 17}
	is, e := Same(c, d)
	wantReport(t, "Same", is, e, true)
	is, e = Alike(c, d)
	wantReport(t, "Alike", is, e, false)
}

func TestP54IsRuler(t *testing.T) {
	for _, c := range allCliffs() {
		d := plainDelays(c)
		is, e := IsRuler(c)
		wantReport(t, "IsRuler", is, e, len(slices.Compact(slices.Clone(d))) == len(d))
	}
	is, e := IsRuler([]int{-9})
	wantReport(t, "IsRuler of one", is, e, true)
	is, e = IsRuler([]int{0, 1, 4, 10, 12, 17})
	wantReport(t, "IsRuler of six", is, e, true)
	is, e = IsRuler([]int{0, 30, 60})
	wantReport(t, "IsRuler with a middle", is, e, false)
}

func TestP54Missing(t *testing.T) {
	for _, c := range allCliffs() {
		var want []int
		d := plainDelays(c)
		if len(d) > 0 {
			for n := 1; n <= d[len(d)-1]; n++ {
				if !slices.Contains(d, n) {
					want = append(want, n)
				}
			}
			// Consequence: the greatest delay is the greatest place minus the smallest one.
			if d[len(d)-1] != c[len(c)-1]-c[0] {
				t.Errorf("Delays %v: %v", c, d)
			}
		}
		l, e := Missing(c)
		wantList(t, "Missing", l, e, want...)
	}
	l, e := Missing([]int{42})
	wantList(t, "Missing of one", l, e)
	l, e = Missing([]int{0, 1, 4, 6})
	wantList(t, "Missing of all", l, e)
	l, e = Missing([]int{-1, 0, 5})
	wantList(t, "Missing", l, e, 2, 3, 4)
	l, e = Missing([]int{55, 60})
	wantList(t, "Missing of two", l, e, 1, 2, 3, 4)
}

// plainHeard looks, for each distance that there may be, for the cliffs that are so far to the one side and to the other.
func plainHeard(c []int, ship int) []int {
	var out []int
	for far := range 1100 {
		if slices.Contains(c, ship-far) {
			out = append(out, far+far)
		}
		if far > 0 && slices.Contains(c, ship+far) {
			out = append(out, far+far)
		}
	}
	return out
}

func TestP54Heard(t *testing.T) {
	for _, c := range append(largeCliffs(40), edgeCliffs()...) {
		for _, ship := range []int{-1000, -999, -61, -60, -31, -1, 0, 1, 2, 10, 30, 59, 60, 61, 999, 1000} {
			l, e := Heard(c, ship)
			wantList(t, "Heard", l, e, plainHeard(c, ship)...)
		}
		for _, ship := range []int{-1001, 1001, math.MinInt, math.MinInt + 1, math.MaxInt, math.MaxInt - 1, math.MinInt / 2, math.MaxInt / 2} {
			l, e := Heard(c, ship)
			wantRefused(t, "Heard", len(l) == 0, e, api.ErrArg)
		}
	}
	l, e := Heard([]int{-1, 0, 5}, 2)
	wantList(t, "Heard", l, e, 4, 6, 6)
	l, e = Heard([]int{-60}, 1000)
	wantList(t, "Heard from the farthest", l, e, 2120)
}

// TestMemory sees to it that no function changes its arguments or gives out a part of them (R5).
func TestMemory(t *testing.T) {
	fs := lists()
	for name, f := range map[string]func([]int) ([]int, api.Errno){
		"Minus of itself": func(c []int) ([]int, api.Errno) { return Minus(c, c) },
		"Find": func(c []int) ([]int, api.Errno) {
			l, _, e := Find(c)
			return l, e
		},
		"All": func(c []int) ([]int, api.Errno) {
			l, e := All(c)
			return slices.Concat(l...), e
		},
		"CheckCliffs": func(c []int) ([]int, api.Errno) { return nil, CheckCliffs(c, c) },
		"IsRuler": func(c []int) ([]int, api.Errno) {
			_, e := IsRuler(c)
			return nil, e
		},
		"Same": func(c []int) ([]int, api.Errno) {
			_, e := Same(c, c)
			return nil, e
		},
		"Alike": func(c []int) ([]int, api.Errno) {
			_, e := Alike(c, c)
			return nil, e
		},
	} {
		fs[name] = f
	}
	for what, f := range fs {
		for _, c := range [][]int{{0}, {7}, {1, 3, 4}, {0, 1, 4}, {0, 3, 4}, {0, 1, 4, 6}, {5, 4, 1}, {1, 2, 3, 4, 5, 6}} {
			// Room behind the last place shows what is appended there.
			c = append(make([]int, 0, 10), c...)
			before := slices.Clone(c)
			r, _ := f(c)
			r = r[:cap(r)]
			for k := range r {
				r[k] = 77
			}
			if !slices.Equal(c, before) || slices.ContainsFunc(c[len(c):cap(c)], func(x int) bool { return x != 0 }) {
				t.Errorf("%s of %v: the cliffs are %v afterwards", what, before, c[:cap(c)])
			}
		}
	}
	rows, e := All(plainDelays([]int{0, 1, 4, 10, 12, 17}))
	if len(rows) != 2 || e != api.OK {
		t.Errorf("All: %v %v", rows, e)
	}
	for i, row := range rows {
		before := slices.Clone(slices.Concat(rows[i+1:]...))
		row = row[:cap(row)]
		for k := range row {
			row[k] = 77
		}
		if !slices.Equal(slices.Concat(rows[i+1:]...), before) {
			t.Errorf("All: row %v shares memory with a later one", i)
		}
	}
}
