package log

import (
	"slices"

	"diaphone/api"
)

// zeros returns a table whose rows lie in one list; the capacity of a row ends with it, so that a row to which is appended moves away and leaves the next one alone.
func zeros(rows, columns int) [][]int {
	cells := make([]int, rows*columns)
	out := make([][]int, rows)
	for row := range out {
		from := row * columns
		end := from + columns
		out[row] = cells[from:end:end]
	}
	return out
}

// bound returns what a number of a table is at most, because of the edit and the number before it.
func bound(table [][]int, row, column int, e edit, c api.Costs) int {
	r, k := before(row, column, e)
	return table[r][k] + e.price(c)
}

// distances fills the table with the greatest numbers with which it grows slowly.
func distances(l, m []int, c api.Costs) [][]int {
	table := zeros(len(l)+1, len(m)+1)
	for row := range table {
		for column := range table[row] {
			for i, e := range edits(l[:row], m[:column]) {
				n := bound(table, row, column, e, c)
				if i == 0 || n < table[row][column] {
					table[row][column] = n
				}
			}
		}
	}
	return table
}

// Table: see P6.2.
func Table(l, m []int, c api.Costs) ([][]int, api.Errno) {
	if e := validateAll(l, m, c); e != api.OK {
		return nil, e
	}
	return distances(l, m, c), api.OK
}

// CheckTable: see P6.2.
func CheckTable(l, m []int, c api.Costs, table [][]int) (int, api.Errno) {
	if e := validateAll(l, m, c); e != api.OK {
		return 0, e
	}
	if !isTable(table, len(l)+1, len(m)+1) {
		return 0, api.ErrArg
	}
	if !growsSlowly(table, l, m, c) {
		return 0, api.ErrProof
	}
	return table[len(l)][len(m)], api.OK
}

func isTable(table [][]int, rows, columns int) bool {
	if len(table) != rows {
		return false
	}
	for _, row := range table {
		if len(row) != columns || slices.Min(row) < -api.MaxProof || slices.Max(row) > api.MaxProof {
			return false
		}
	}
	return true
}

func growsSlowly(table [][]int, l, m []int, c api.Costs) bool {
	if table[0][0] != 0 {
		return false
	}
	for row := range table {
		for column, n := range table[row] {
			for _, e := range edits(l[:row], m[:column]) {
				if n > bound(table, row, column, e, c) {
					return false
				}
			}
		}
	}
	return true
}

// lastEdits returns the edits of the first signs, as many as row and column say, that the comparisons with the smallest cost have; one at least, except of no signs.
func lastEdits(table [][]int, l, m []int, c api.Costs, row, column int) []edit {
	var out []edit
	for _, e := range edits(l[:row], m[:column]) {
		if bound(table, row, column, e, c) == table[row][column] {
			out = append(out, e)
		}
	}
	return out
}

// Best: see P6.1.
func Best(l, m []int, c api.Costs) ([]api.Pair, api.Errno) {
	if e := validateAll(l, m, c); e != api.OK {
		return nil, e
	}
	table := distances(l, m, c)
	var pairs []api.Pair
	row, column := len(l), len(m)
	for row > 0 || column > 0 {
		last := lastEdits(table, l, m, c, row, column)[0]
		row, column = before(row, column, last)
		if _, ok := last.(paired); ok {
			pairs = append(pairs, api.Pair{A: row, B: column})
		}
	}
	slices.Reverse(pairs)
	return pairs, api.OK
}

// Count: see P6.1.
func Count(l, m []int, c api.Costs) (int, api.Errno) {
	if e := validateAll(l, m, c); e != api.OK {
		return 0, e
	}
	table := distances(l, m, c)
	counts := zeros(len(l)+1, len(m)+1)
	counts[0][0] = 1
	for row := range counts {
		for column := range counts[row] {
			for _, e := range lastEdits(table, l, m, c, row, column) {
				r, k := before(row, column, e)
				counts[row][column] += counts[r][k]
			}
			counts[row][column] -= twice(table, counts, c, row, column)
		}
	}
	return counts[len(l)][len(m)], api.OK
}

// twice returns how many comparisons with the smallest cost have two last edits: both last signs are in no pair.
func twice(table, counts [][]int, c api.Costs, row, column int) int {
	if row == 0 || column == 0 || table[row][column] != table[row-1][column-1]+c.Out+c.In {
		return 0
	}
	return counts[row-1][column-1]
}
