package air

import (
	"slices"

	"diaphone/api"
)

// copied returns the same task in memory of its own.
func copied(t api.Task) api.Task {
	t.Cost, t.Need = slices.Clone(t.Cost), slices.Clone(t.Need)
	return t
}

// checked returns the task, or ErrArg if a number of it is not in range.
func checked(t api.Task) (api.Task, api.Errno) {
	if e := Validate(t); e != api.OK {
		return api.Task{}, e
	}
	return t, api.OK
}

// Begin: see P3.5.
func Begin(t api.Task, hours int) (api.Task, api.Errno) {
	if e := Validate(t); e != api.OK {
		return api.Task{}, e
	}
	if hours < 1 || hours > len(t.Need) {
		return api.Task{}, api.ErrArg
	}
	t.Cost, t.Need = t.Cost[:hours], t.Need[:hours]
	return copied(t), api.OK
}

// Scale: see P3.5.
func Scale(t api.Task, by int) (api.Task, api.Errno) {
	if e := Validate(t); e != api.OK {
		return api.Task{}, e
	}
	// Held to these bounds, since a product may be more than an int holds; beyond them, just the products of 0 are in range, whatever the number is.
	by = max(-1, min(by, api.MaxStart+1))
	t = copied(t)
	t.Start *= by
	for hour := range len(t.Need) {
		t.Need[hour] *= by
	}
	return checked(t)
}

// Dearer: see P3.5.
func Dearer(t api.Task, start int) (api.Task, api.Errno) {
	if e := Validate(t); e != api.OK {
		return api.Task{}, e
	}
	t = copied(t)
	t.Start = start
	return checked(t)
}

// Need: see P3.5.
func Need(t api.Task, hour, by int) (api.Task, api.Errno) {
	if e := Validate(t); e != api.OK {
		return api.Task{}, e
	}
	if hour < 0 || hour >= len(t.Need) {
		return api.Task{}, api.ErrNone
	}
	// Refused first, since a Need plus by may be more than an int holds.
	if by < -api.MaxNeed || by > api.MaxNeed {
		return api.Task{}, api.ErrArg
	}
	t = copied(t)
	t.Need[hour] += by
	return checked(t)
}
