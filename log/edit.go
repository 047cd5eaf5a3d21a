package log

import "diaphone/api"

// An edit is what a comparison does with the last signs of two logs.
type edit interface {
	price(c api.Costs) int
}

// leftOut: the last sign of the first log is in no pair.
type leftOut struct{}

// putIn: the last sign of the second log is in no pair.
type putIn struct{}

// paired: the last signs of both logs are a pair.
type paired struct {
	equal bool
}

func (leftOut) price(c api.Costs) int { return c.Out }

func (putIn) price(c api.Costs) int { return c.In }

func (p paired) price(c api.Costs) int {
	if p.equal {
		return 0
	}
	return c.Change
}

// edits returns the edits that two logs allow. Each comparison of logs with any signs has one of them, and it has two only if both last signs are in no pair.
func edits(l, m []int) []edit {
	var out []edit
	if len(l) > 0 {
		out = append(out, leftOut{})
	}
	if len(m) > 0 {
		out = append(out, putIn{})
	}
	if len(l) > 0 && len(m) > 0 {
		out = append(out, paired{equal: l[len(l)-1] == m[len(m)-1]})
	}
	return out
}

// before returns how many signs of both logs are left without those of the edit.
func before(row, column int, e edit) (int, int) {
	switch e.(type) {
	case leftOut:
		row--
	case putIn:
		column--
	case paired:
		row--
		column--
	}
	return row, column
}
