package station

import "diaphone/api"

// Replay: see P9.5.
func Replay(t, w []int, b api.Box, book string) (*Station, int, api.Errno) {
	s, e := New(t, w, b)
	if e != api.OK {
		return nil, 0, e
	}
	orders, rest := Read(book)
	if rest != "" {
		return nil, 0, api.ErrBroken
	}
	for i, order := range orders {
		if e := s.Do(order); e != api.OK {
			return nil, i, e
		}
	}
	return s, len(orders), api.OK
}

// Merge: see P9.5.
func Merge(a, b string) (string, int, api.Errno) {
	first, restA := Read(a)
	second, restB := Read(b)
	if restA != "" || restB != "" {
		return "", 0, api.ErrBroken
	}
	for i := range min(len(first), len(second)) {
		if first[i] != second[i] {
			return "", i, api.ErrProof
		}
	}
	if len(second) > len(first) {
		return b, len(second), api.OK
	}
	return a, len(first), api.OK
}

// Run: see P9.5.
func Run(t, w []int, b api.Box, orders []string) ([]api.Errno, string, api.Errno) {
	s, e := New(t, w, b)
	if e != api.OK {
		return nil, "", e
	}
	if len(orders) > api.MaxPages {
		return nil, "", api.ErrLarge
	}
	var errs []api.Errno
	for _, order := range orders {
		errs = append(errs, s.Do(order))
	}
	return errs, s.Book(), api.OK
}

// Audit: see P9.3.
func (s *Station) Audit() bool {
	if s == nil {
		return false
	}
	s.lock.Lock()
	defer s.lock.Unlock()
	return s.isBalanced() && s.isReplayed()
}

// isBalanced reports whether air, cartridges and hours are accounted for.
func (s *Station) isBalanced() bool {
	now := s.now
	return now.air.came == now.air.here+now.sounded*s.need() &&
		now.stock.came == now.stock.here+now.used &&
		now.foggy <= now.hour && now.sounded+now.missed <= now.hour
}

// isReplayed reports whether the book alone makes this station again.
func (s *Station) isReplayed() bool {
	book := write(s.orders)
	again, _, e := Replay(s.tone, s.weights, s.box, book)
	return e == api.OK && again.look() == s.now && again.Book() == book
}
