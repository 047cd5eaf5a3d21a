package log

import (
	"math"
	"slices"
	"testing"

	"diaphone/api"
)

// plainGrows judges a table by the definition of growing slowly.
func plainGrows(x trial, table [][]int) bool {
	for row := range table {
		for column, n := range table[row] {
			if row == 0 && column == 0 && n != 0 {
				return false
			}
			if row > 0 && n-table[row-1][column] > x.c.Out {
				return false
			}
			if column > 0 && n-table[row][column-1] > x.c.In {
				return false
			}
			if row > 0 && column > 0 {
				more := n - table[row-1][column-1]
				if more > x.c.Change || more > 0 && x.l[row-1] == x.m[column-1] {
					return false
				}
			}
		}
	}
	return true
}

func cloneTable(table [][]int) [][]int {
	var out [][]int
	for _, row := range table {
		out = append(out, slices.Clone(row))
	}
	return out
}

// wantTable holds CheckTable against the definition.
func wantTable(t *testing.T, x trial, table [][]int) {
	t.Helper()
	n, e := CheckTable(x.l, x.m, x.c, table)
	if !plainGrows(x, table) {
		wantRefused(t, "CheckTable", n == 0, e, api.ErrProof)
		return
	}
	wantNumber(t, "CheckTable", n, e, table[len(x.l)][len(x.m)])
	// Consequence: what grows slowly proves a bound.
	if d := plainDistance(x.l, x.m, x.c); n > d {
		t.Errorf("CheckTable %v %v: %v, but the distance is %v", x, table, n, d)
	}
}

func TestP62Table(t *testing.T) {
	check := func(x trial) {
		table, e := Table(x.l, x.m, x.c)
		if e != api.OK || len(table) != len(x.l)+1 {
			t.Fatalf("Table %v: %v %v", x, table, e)
		}
		for row := range table {
			if len(table[row]) != len(x.m)+1 {
				t.Fatalf("Table %v: %v", x, table)
			}
			for column, n := range table[row] {
				if row+column > 10 {
					continue
				}
				if want := plainDistance(x.l[:row], x.m[:column], x.c); n != want {
					t.Fatalf("Table %v: %v in row %v and column %v, want %v", x, n, row, column, want)
				}
			}
		}
		n, e := CheckTable(x.l, x.m, x.c, table)
		d, f := Distance(x.l, x.m, x.c)
		if n != d || e != api.OK || f != api.OK || !plainGrows(x, table) {
			t.Fatalf("CheckTable of Table %v: %v %v, want %v", x, n, e, d)
		}
	}
	for _, x := range trials() {
		check(x)
	}
	// Each number is the distance of the first signs, also in large tables.
	for _, x := range someTrials(60) {
		table, _ := Table(x.l, x.m, x.c)
		for row := range table {
			for column, n := range table[row] {
				d, e := Distance(x.l[:row], x.m[:column], x.c)
				wantNumber(t, "Distance of the first signs", d, e, n)
			}
		}
	}
}

// TestP62AllTables holds CheckTable against all tables with small numbers.
func TestP62AllTables(t *testing.T) {
	logs := [][2][]int{
		{nil, nil}, {nil, {1}}, {{1}, nil}, {{1}, {1}}, {{1}, {2}}, {{0}, {1, 0}}, {{0, 1}, {1}}, {nil, {1, 2}}, {{1, 1}, nil},
	}
	for _, c := range []api.Costs{{Out: 1, In: 1, Change: 1}, {Out: 1, In: 2, Change: 1}, {Out: 2, In: 1, Change: 2}, {Out: 1, In: 1, Change: 3}} {
		for _, both := range logs {
			x := trial{both[0], both[1], c}
			columns := len(x.m) + 1
			size := (len(x.l) + 1) * columns
			numbers := make([]int, size)
			var extend func(at int)
			extend = func(at int) {
				if at == size {
					var table [][]int
					for from := 0; from < size; from += columns {
						table = append(table, numbers[from:from+columns])
					}
					wantTable(t, x, table)
					return
				}
				for n := -1; n <= 3; n++ {
					numbers[at] = n
					extend(at + 1)
				}
			}
			extend(0)
		}
	}
}

// TestP62NearTables changes one number of tables that grow slowly.
func TestP62NearTables(t *testing.T) {
	for i, x := range append(someTrials(40), edgeTrials()...) {
		if len(x.l)+len(x.m) > 12 {
			x.l, x.m = x.l[:min(len(x.l), 6)], x.m[:min(len(x.m), 6)]
		}
		table, _ := Table(x.l, x.m, x.c)
		for row := range table {
			for column := range table[row] {
				for _, by := range []int{-1000, -9, -2, -1, 1, 2, i % 10} {
					other := cloneTable(table)
					other[row][column] += by
					if other[row][column] >= -1000 {
						wantTable(t, x, other)
					}
				}
			}
		}
		for _, n := range []int{-1000, -1, 0, 1, 1000} {
			other := zeros(len(x.l)+1, len(x.m)+1)
			for row := range other {
				for column := range other[row] {
					other[row][column] = n
				}
			}
			wantTable(t, x, other)
			other[0][0] = 0
			wantTable(t, x, other)
		}
	}
}

func TestP62TableErrors(t *testing.T) {
	l, m, c := []int{1}, []int{1, 2}, api.Costs{Out: 2, In: 3, Change: 4}
	for _, x := range []struct {
		table [][]int
		want  api.Errno
	}{
		{nil, api.ErrArg},
		{[][]int{}, api.ErrArg},
		{[][]int{{0, 3, 6}}, api.ErrArg},
		{[][]int{{0, 3, 6}, {2, 0, 3}, {4, 2, 4}}, api.ErrArg},
		{[][]int{{0, 3, 6}, nil}, api.ErrArg},
		{[][]int{nil, nil}, api.ErrArg},
		{[][]int{{0, 3, 6}, {2, 0}}, api.ErrArg},
		{[][]int{{0, 3}, {2, 0, 3}}, api.ErrArg},
		{[][]int{{0, 3, 6, 9}, {2, 0, 3}}, api.ErrArg},
		{[][]int{{0, 3, 6}, {2, 0, 3, 6}}, api.ErrArg},
		{[][]int{{0, 2}, {3, 0}, {6, 3}}, api.ErrArg},
		{[][]int{{0, 3, 6}, {2, 0, 1001}}, api.ErrArg},
		{[][]int{{0, 3, 6}, {2, 0, -1001}}, api.ErrArg},
		{[][]int{{0, 3, -1001}, {2, 0, 3}}, api.ErrArg},
		{[][]int{{1001, 3, 6}, {2, 0, 3}}, api.ErrArg},
		{[][]int{{-1001, 3, 6}, {2, 0, 3}}, api.ErrArg},
		{[][]int{{0, 3, math.MinInt}, {2, 0, math.MaxInt}}, api.ErrArg},
		{[][]int{{math.MinInt, 3, 6}, {2, 0, 3}}, api.ErrArg},
		// The whole table is examined for ErrArg before it is judged.
		{[][]int{{1, 9, 9}, {9, 9, 1001}}, api.ErrArg},
		{[][]int{{1, 9, 9}, {9, 9}}, api.ErrArg},
		{[][]int{{1, 3, 6}, {2, 0, 3}}, api.ErrProof},
		{[][]int{{-1, 2, 5}, {1, -1, 2}}, api.ErrProof},
		{[][]int{{-1000, -1000, -1000}, {-1000, -1000, -1000}}, api.ErrProof},
		{[][]int{{0, 4, 6}, {2, 0, 3}}, api.ErrProof},
		{[][]int{{0, 3, 6}, {3, 0, 3}}, api.ErrProof},
		{[][]int{{0, 3, 6}, {2, 1, 3}}, api.ErrProof},
		{[][]int{{0, 3, 6}, {2, 0, 4}}, api.ErrProof},
		{[][]int{{0, 3, 6}, {2, 0, 1000}}, api.ErrProof},
	} {
		n, e := CheckTable(l, m, c, x.table)
		wantRefused(t, "CheckTable", n == 0, e, x.want)
	}
	n, e := CheckTable(l, m, c, [][]int{{0, 3, 6}, {2, 0, -1000}})
	wantNumber(t, "CheckTable", n, e, -1000)
	n, e = CheckTable(l, m, c, [][]int{{0, 3, 6}, {2, 0, 3}})
	wantNumber(t, "CheckTable", n, e, 3)
	n, e = CheckTable(l, m, c, [][]int{{0, 0, 0}, {0, 0, 0}})
	wantNumber(t, "example 3", n, e, 0)
}

// TestMemory sees to it that no function changes its arguments, gives out a part of them or rows that share memory (R5).
func TestMemory(t *testing.T) {
	l, m := []int{1, 2, 3, 4, 5}, []int{1, 3, 2, 7, 7}
	a, b := l[:3], m[:3]
	c, to := api.Costs{Out: 1, In: 2, Change: 3}, []int{5, 4, 3, 2, 1, 0}
	list := [][]int{a, b}
	table, _ := Table(a, b, c)
	best, _ := Best(a, b, c)
	pairs, rows := slices.Clone(best), cloneTable(table)
	var results [][]int
	keep := func(l []int, _ api.Errno) { results = append(results, l) }
	CheckPairs(a, b, c, best)
	CheckTable(a, b, c, table)
	Distance(a, b, c)
	Count(a, b, c)
	Common(a, b)
	Nearest(list, a, c)
	Window(a, b, c)
	CheckCommon(a, b, a)
	keep(Part(a, a))
	keep(Part(a, b))
	keep(Back(a))
	keep(Rename(a, to))
	keep(Insert(a, 0, 0))
	keep(Insert(a, 3, 0))
	x, y, _, _ := Swap(a, a, c)
	keep(x, api.OK)
	keep(y, api.OK)
	want := slices.Clone(results)
	for i := range want {
		want[i] = slices.Clone(results[i])
	}
	for i, r := range results {
		if !slices.Equal(r, want[i]) {
			t.Errorf("result %d shares memory with one before it: %v", i, r)
		}
		r = r[:cap(r)]
		for k := range r {
			r[k] = 99
		}
	}
	for i, row := range table {
		if !slices.Equal(row, rows[i]) {
			t.Errorf("row %d was changed or shares memory with one before it: %v", i, row)
		}
		row = append(row, 99, 99)
		for k := range row {
			row[k] = 99
		}
		whole := table[i][:cap(table[i])]
		for k := range whole {
			whole[k] = 99
		}
	}
	if !slices.Equal(l, []int{1, 2, 3, 4, 5}) || !slices.Equal(m, []int{1, 3, 2, 7, 7}) || !slices.Equal(to, []int{5, 4, 3, 2, 1, 0}) || !slices.Equal(best, pairs) {
		t.Errorf("the arguments are %v %v %v %v afterwards", l, m, to, best)
	}
	if len(list) != 2 || !slices.Equal(list[0], a) || !slices.Equal(list[1], b) {
		t.Errorf("the list is %v afterwards", list)
	}
}
