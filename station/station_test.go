package station

import (
	"slices"
	"strconv"
	"strings"
	"sync"
	"testing"

	"diaphone/api"
)

// seen is what the methods of a station return.
type seen struct {
	hour                                      int
	fog                                       bool
	state, air, stock, foggy, sounded, missed int
	fired, used                               int
	book                                      string
}

func see(s *Station) seen {
	fired, used := s.Fired()
	return seen{s.Hour(), s.Fog(), s.State(), s.Air(), s.Stock(), s.Foggy(), s.Sounded(), s.Missed(), fired, used, s.Book()}
}

// siren is a box that gives the signal 1 exactly after the input 1.
func siren() api.Box {
	return api.Box{Next: [][2]int{{0, 1}, {0, 1}}, Out: []int{0, 1}}
}

// clock is a box that goes from state to state on both inputs, and round.
func clock(signals ...int) api.Box {
	b := api.Box{Out: signals}
	for i := range signals {
		to := (i + 1) % len(signals)
		b.Next = append(b.Next, [2]int{to, to})
	}
	return b
}

func makeStation(t *testing.T, tone, weights []int, b api.Box, orders ...string) *Station {
	t.Helper()
	s, e := New(tone, weights, b)
	if e != api.OK || s == nil {
		t.Fatalf("New of %v, %v, %v: %v", tone, weights, b, e)
	}
	for _, order := range orders {
		wantDone(t, s, order, api.OK)
	}
	return s
}

// usual makes a station that needs 2 units of air in an hour.
func usual(t *testing.T, orders ...string) *Station {
	t.Helper()
	return makeStation(t, []int{1, 1, 0}, []int{3, 5}, siren(), orders...)
}

// wantDone also checks that a refused order changes nothing, and that an executed one is in the book.
func wantDone(t *testing.T, s *Station, order string, want api.Errno) {
	t.Helper()
	before, now := see(s), s.now
	if got := s.Do(order); got != want {
		t.Errorf("Do of %q: error %v, want %v", order, got, want)
	}
	if want != api.OK && (see(s) != before || s.now != now) {
		t.Errorf("Do of %q: the station is %+v afterwards, want %+v", order, see(s), before)
	}
	if want == api.OK && !strings.HasSuffix(s.Book(), " "+order+"\n") {
		t.Errorf("Do of %q: the book is %q afterwards", order, s.Book())
	}
}

// A step is an order, and the error of Do.
type step struct {
	order string
	want  api.Errno
}

func wantSteps(t *testing.T, s *Station, steps ...step) {
	t.Helper()
	for _, x := range steps {
		wantDone(t, s, x.order, x.want)
	}
}

func wantSeen(t *testing.T, s *Station, want seen) {
	t.Helper()
	got := see(s)
	got.book = ""
	if got != want {
		t.Errorf("the station after %q is %+v, want %+v", s.orders, got, want)
	}
}

// notMade are tones, weights and boxes of which no station is made, with the error.
func notMade() []struct {
	name string
	t, w []int
	b    api.Box
	want api.Errno
} {
	noState := api.Box{Next: [][2]int{{0, 2}, {0, 1}}, Out: []int{0, 1}}
	return []struct {
		name string
		t, w []int
		b    api.Box
		want api.Errno
	}{
		{"nothing", nil, nil, api.Box{}, api.ErrLarge},
		{"a long tone, and all else wrong", make([]int, 25), []int{0}, api.Box{}, api.ErrLarge},
		{"another second, and all else wrong", []int{1, 2}, nil, api.Box{}, api.ErrArg},
		{"another second", []int{1, -1}, []int{1}, siren(), api.ErrArg},
		{"no weights, and no box", []int{1}, nil, api.Box{}, api.ErrLarge},
		{"many weights", []int{1}, []int{1, 2, 3, 4, 5}, siren(), api.ErrLarge},
		{"no set", []int{1}, []int{5, 3}, siren(), api.ErrArg},
		{"a great weight", []int{1}, []int{31}, siren(), api.ErrArg},
		{"no box", []int{1}, []int{1}, api.Box{}, api.ErrArg},
		{"many states", []int{1}, []int{1}, clock(0, 0, 0, 0, 0, 0, 1), api.ErrArg},
		{"a state that is not there", []int{1}, []int{1}, noState, api.ErrArg},
		{"a signal that is not there", []int{1}, []int{1}, clock(4), api.ErrArg},
	}
}

func TestP93New(t *testing.T) {
	for _, x := range notMade() {
		if s, e := New(x.t, x.w, x.b); s != nil || e != x.want {
			t.Errorf("New with %s: %v, error %v, want %v", x.name, s, e, x.want)
		}
	}
	for _, s := range []*Station{
		usual(t),
		makeStation(t, []int{0}, []int{1}, clock(3)),
		makeStation(t, slices.Repeat([]int{1, 0}, 12), []int{1, 2, 3, 30}, clock(1, 2, 3, 0, 0, 0)),
	} {
		wantSeen(t, s, seen{})
		if s.Book() != "" || !s.Audit() {
			t.Errorf("a new station has the book %q, and Audit is %v", s.Book(), s.Audit())
		}
	}
}

func TestP93WhatThereIs(t *testing.T) {
	s := usual(t, "pump 9", "stock 7", "wait 2", "fog", "wait 1")
	wantSeen(t, s, seen{hour: 3, fog: true, state: 1, air: 7, stock: 7, foggy: 1, sounded: 1})
	for _, order := range []string{"fire 6", "wait 5", "clear", "fire 5", "wait 4"} {
		wantDone(t, s, order, api.OK)
	}
	wantSeen(t, s, seen{hour: 12, air: 1, stock: 4, foggy: 6, sounded: 4, missed: 2, fired: 11, used: 3})
	if again := see(s); again != see(s) {
		t.Errorf("looking changes the station: %+v", again)
	}
}

func TestP93Nil(t *testing.T) {
	var none *Station
	for _, s := range []*Station{none, new(Station)} {
		for _, order := range []string{"fog", "clear", "pump 1", "wait 1", "stock 1", "fire 1", "set 0", "", "x", strings.Repeat("x", 41)} {
			if e := s.Do(order); e != api.ErrArg {
				t.Errorf("Do of %q for a station that New did not make: error %v", order, e)
			}
		}
		if see(s) != (seen{}) || s.Audit() {
			t.Errorf("a station that New did not make is %+v, and Audit is %v", see(s), s.Audit())
		}
	}
}

// TestP93Goroutines is also one for the race detector.
func TestP93Goroutines(t *testing.T) {
	s := makeStation(t, []int{1}, []int{3}, clock(1), "stock 500", "pump 500")
	var group sync.WaitGroup
	done := make([]int, 8)
	for i := range done {
		group.Go(func() {
			for range 10 {
				for _, order := range []string{"fire 6", "wait 1"} {
					if s.Do(order) == api.OK {
						done[i]++
					}
				}
				if fired, used := s.Fired(); fired != 3*used {
					t.Errorf("Fired returns what was not there at one moment: %d, %d", fired, used)
				}
				if orders, rest := Read(s.Book()); rest != "" || len(orders) < 3 || !s.Audit() {
					t.Errorf("the book is torn: %q and %q, or Audit is false", orders, rest)
				}
				see(s)
			}
		})
	}
	group.Wait()
	sum := 0
	for _, n := range done {
		sum += n
	}
	orders, rest := Read(s.Book())
	if sum != 98 || len(orders) != 100 || rest != "" || !s.Audit() {
		t.Fatalf("%d orders were executed, the book has %d, and Audit is %v", sum, len(orders), s.Audit())
	}
	hours := 0
	for _, order := range orders {
		if order == "wait 1" {
			hours++
		}
	}
	shots := 98 - hours
	wantSeen(t, s, seen{hour: hours, air: 500 - hours, stock: 500 - 2*shots, sounded: hours, fired: 6 * shots, used: 2 * shots})
}

func TestMemory(t *testing.T) {
	tone, weights, box := []int{1, 1, 0, 9}, []int{3, 5, 9}, api.Box{Next: [][2]int{{0, 1}, {0, 1}, {9, 9}}, Out: []int{0, 1, 9}}
	a, w, b := tone[:3], weights[:2], api.Box{Next: box.Next[:2], Out: box.Out[:2]}
	orders := []string{"pump 5", "fog", "fog", "wait 3", "stock 4", "fire 8", "end"}
	var stations []*Station
	var books []string
	var lists [][]string
	var errs [][]api.Errno
	for range 2 {
		l, book, _ := Run(a, w, b, orders[:6])
		s, _, _ := Replay(a, w, b, book)
		read, _ := Read(book)
		written, _ := Write(read)
		merged, _, _ := Merge(book, written)
		s.Audit()
		stations, books, lists, errs = append(stations, s), append(books, book, s.Book(), written, merged), append(lists, read), append(errs, l)
	}
	if !slices.Equal(tone, []int{1, 1, 0, 9}) || !slices.Equal(weights, []int{3, 5, 9}) || !slices.Equal(box.Next, [][2]int{{0, 1}, {0, 1}, {9, 9}}) || !slices.Equal(box.Out, []int{0, 1, 9}) {
		t.Errorf("the arguments are %v %v %v afterwards", tone, weights, box)
	}
	if !slices.Equal(orders, []string{"pump 5", "fog", "fog", "wait 3", "stock 4", "fire 8", "end"}) {
		t.Errorf("the orders are %q afterwards", orders)
	}
	for _, book := range books {
		if book != books[0] {
			t.Errorf("the books are %q", books)
		}
	}
	if see(stations[0]) != see(stations[1]) {
		t.Errorf("equal calls make the stations %+v and %+v", see(stations[0]), see(stations[1]))
	}
	wantApart(t, lists)
	wantApart(t, errs)

	// What becomes of the arguments is nothing to a station, nor is what one station does to another one.
	tone[0], weights[0], box.Next[0][1], box.Out[1] = 0, 4, 0, 0
	before := see(stations[1])
	for _, order := range []string{"set 0", "wait 1", "pump 3", "wait 2", "fire 3"} {
		wantDone(t, stations[0], order, api.OK)
	}
	wantSeen(t, stations[0], seen{hour: 6, fog: true, state: 1, stock: 1, foggy: 6, sounded: 4, missed: 2, fired: 11, used: 3, air: 0})
	if !stations[0].Audit() || see(stations[1]) != before {
		t.Errorf("Audit is %v, and another station is %+v, want %+v", stations[0].Audit(), see(stations[1]), before)
	}
}

// wantApart checks that two results of equal calls are equal, and share no memory.
func wantApart[T comparable](t *testing.T, results [][]T) {
	t.Helper()
	first, second := results[0], results[1]
	if len(first) == 0 || !slices.Equal(first, second) {
		t.Fatalf("equal calls return %v and %v", first, second)
	}
	want := slices.Clone(second)
	clear(first[:cap(first)])
	if !slices.Equal(second, want) {
		t.Errorf("the results of two calls share memory: %v, want %v", second, want)
	}
}

// mixer makes numbers by a rule that mixes them.
type mixer int

func (m *mixer) below(n int) int {
	*m = (*m*1103515245 + 12345) % (1 << 31)
	return int(*m) >> 8 % n
}

func (m *mixer) of(l ...string) string {
	return l[m.below(len(l))]
}

// order makes an order; small says how small its numbers are mostly.
func (m *mixer) order(small int) string {
	number := strconv.Itoa(m.below(small))
	if m.below(8) == 0 {
		number = m.of("0", "1", "2", "5", "6", "99", "100", "500", "501", "2000", "2001", "9999", "10000", "01", "-1", "", "x")
	}
	switch m.below(8) {
	case 0:
		return m.of("fog", "clear", "fog", "clear", "fog", "clear", "fog 1", "clear ", "Fog", "")
	case 1:
		return "set " + strconv.Itoa(m.below(7))
	case 2:
		return m.of("fog", "clear")
	}
	return m.of("pump ", "pump ", "wait ", "wait ", "stock ", "fire ", "fire ", "set ") + number
}
