package station

import (
	"slices"
	"strings"
	"testing"

	"diaphone/api"
)

// doings are lists of orders that the usual station executes.
func doings() [][]string {
	return [][]string{
		nil,
		{"fog"},
		{"pump 5", "fog", "wait 3"},
		{"pump 5", "fog", "wait 3", "clear", "wait 2", "set 1", "wait 1", "stock 4", "fire 8", "fire 10", "pump 499", "fog", "wait 99"},
		slices.Repeat([]string{"wait 99"}, 100),
		slices.Repeat([]string{"fog", "pump 2", "wait 1", "clear", "stock 1"}, 20),
	}
}

func replayUsual(book string) (*Station, int, api.Errno) {
	return Replay([]int{1, 1, 0}, []int{3, 5}, siren(), book)
}

func TestP95Replay(t *testing.T) {
	for _, l := range doings() {
		s := usual(t, l...)
		again, n, e := replayUsual(s.Book())
		if e != api.OK || n != len(l) {
			t.Fatalf("Replay of %q: %d, error %v", l, n, e)
		}
		if see(again) != see(s) || again.now != s.now || !s.Audit() || !again.Audit() {
			t.Errorf("Replay of %q makes the station %+v, want %+v", l, see(again), see(s))
		}
	}
}

func TestP95ReplayOfFirstLines(t *testing.T) {
	for _, l := range doings() {
		s := usual(t)
		lines := strings.SplitAfter(plainBook(l), "\n")
		for i := range len(l) + 1 {
			again, n, e := replayUsual(strings.Join(lines[:i], ""))
			if e != api.OK || n != i || see(again) != see(s) {
				t.Fatalf("Replay of the first %d lines of %q: %d, error %v", i, l, n, e)
			}
			if i < len(l) {
				wantDone(t, s, l[i], api.OK)
			}
		}
	}
}

func TestP95ReplayRefuses(t *testing.T) {
	for _, x := range notMade() {
		for _, book := range []string{"", "x", plainBook([]string{"fog", "fog"}), plainBook([]string{"fog"})} {
			if s, n, e := Replay(x.t, x.w, x.b, book); s != nil || n != 0 || e != x.want {
				t.Errorf("Replay with %s: %v, %d, error %v, want %v", x.name, s, n, e, x.want)
			}
		}
	}
	book := plainBook([]string{"fog", "pump 5", "fog"})
	many := plainBook(slices.Repeat([]string{"wait 1"}, 101))
	for _, torn := range []string{"x", "\n", "fog\n", book + "x", book + book, book[:len(book)-1], book[1:], strings.Replace(book, "5", "6", 1), many, plainBook([]string{""}), plainBook([]string{strings.Repeat("x", 41)})} {
		if s, n, e := replayUsual(torn); s != nil || n != 0 || e != api.ErrBroken {
			t.Errorf("Replay of %q: %v, %d, error %v", torn, s, n, e)
		}
	}
	for _, x := range []struct {
		orders []string
		number int
		want   api.Errno
	}{
		{[]string{"x"}, 0, api.ErrSyntax}, {[]string{"x", "clear"}, 0, api.ErrSyntax}, {[]string{"clear", "x"}, 0, api.ErrState},
		{[]string{"fog", "pump 5", "fog"}, 2, api.ErrTwice}, {[]string{"fog", "pump 501", "fog"}, 1, api.ErrLarge}, {[]string{"fog", "pump 0", "x"}, 1, api.ErrArg},
		{[]string{"stock 2", "fire 7"}, 1, api.ErrRule}, {[]string{"stock 2", "fire 11"}, 1, api.ErrShort}, {[]string{"set 1", "set 0", "set 2", "clear"}, 2, api.ErrNone},
		{append(slices.Repeat([]string{"wait 1"}, 99), "wait 0"), 99, api.ErrArg}, {append(slices.Repeat([]string{"wait 1"}, 99), strings.Repeat("x", 40)), 99, api.ErrSyntax},
	} {
		if s, n, e := replayUsual(plainBook(x.orders)); s != nil || n != x.number || e != x.want {
			t.Errorf("Replay of the book of %q: %v, %d, error %v, want %d, %v", x.orders, s, n, e, x.number, x.want)
		}
	}
}

func TestP95Merge(t *testing.T) {
	lists := append(entryLists(), doings()...)
	lists = append(lists, []string{"fog", "x"}, []string{"fog", "pump 5"}, []string{"fog", "pump 6", "wait 3"}, []string{"x", "pump 5", "wait 3"}, []string{"fog", "pump 5", "wait 4"}, slices.Repeat([]string{"wait 1"}, 99))
	for _, l := range lists {
		for _, m := range lists {
			same := 0
			for same < len(l) && same < len(m) && l[same] == m[same] {
				same++
			}
			want, number, err := plainBook(l), len(l), api.OK
			if same == len(l) {
				want, number = plainBook(m), len(m)
			} else if same < len(m) {
				want, number, err = "", same, api.ErrProof
			}
			if got, n, e := Merge(plainBook(l), plainBook(m)); got != want || n != number || e != err {
				t.Errorf("Merge of the books of %q and %q: %q, %d, error %v, want %q, %d, %v", l, m, got, n, e, want, number, err)
			}
		}
	}
}

func TestP95MergeBroken(t *testing.T) {
	good := []string{"", plainBook([]string{"fog"}), plainBook([]string{"x", "pump 5"}), plainBook(slices.Repeat([]string{"wait 1"}, 100))}
	torn := []string{"x", "\n", good[1] + "x", good[1] + "\n", good[1] + good[1], good[2][:len(good[2])-1], "1" + good[2], plainBook(slices.Repeat([]string{"wait 1"}, 101))}
	for _, a := range torn {
		for _, b := range slices.Concat(good, torn) {
			for _, pair := range [][2]string{{a, b}, {b, a}} {
				if got, n, e := Merge(pair[0], pair[1]); got != "" || n != 0 || e != api.ErrBroken {
					t.Errorf("Merge of %q and %q: %q, %d, error %v", pair[0], pair[1], got, n, e)
				}
			}
		}
	}
}

func runUsual(orders ...string) ([]api.Errno, string, api.Errno) {
	return Run([]int{1, 1, 0}, []int{3, 5}, siren(), orders)
}

func TestP95Run(t *testing.T) {
	orders := []string{"fog", "fog", "pump 5", "", "wait 3", "clear", "clear", "pump 600", "stock 4", "fire 9", "fire 7", "fire 0", "fire 14", "fire 8", "set 3", "fog\n"}
	want := []api.Errno{api.OK, api.ErrTwice, api.OK, api.ErrSyntax, api.OK, api.OK, api.ErrState, api.ErrLarge, api.OK, api.OK, api.ErrRule, api.ErrArg, api.ErrShort, api.ErrShort, api.ErrNone, api.ErrSyntax}
	book := plainBook([]string{"fog", "pump 5", "wait 3", "clear", "stock 4", "fire 9"})
	if errs, got, e := runUsual(orders...); !slices.Equal(errs, want) || got != book || e != api.OK {
		t.Errorf("Run of %q: %v, %q, error %v, want %v, %q", orders, errs, got, e, want, book)
	}
	if errs, got, e := runUsual(); len(errs) != 0 || got != "" || e != api.OK {
		t.Errorf("Run of no orders: %v, %q, error %v", errs, got, e)
	}
	for _, l := range doings() {
		if errs, got, e := runUsual(l...); !slices.Equal(errs, make([]api.Errno, len(l))) || got != plainBook(l) || e != api.OK {
			t.Errorf("Run of %q: %v, %q, error %v", l, errs, got, e)
		}
	}
	full := slices.Repeat([]string{""}, 100)
	if errs, got, e := runUsual(full...); !slices.Equal(errs, slices.Repeat([]api.Errno{api.ErrSyntax}, 100)) || got != "" || e != api.OK {
		t.Errorf("Run of 100 empty orders: %v, %q, error %v", errs, got, e)
	}
}

func TestP95RunRefuses(t *testing.T) {
	for _, orders := range [][]string{slices.Repeat([]string{"wait 1"}, 101), make([]string, 101), make([]string, 1000)} {
		if errs, got, e := runUsual(orders...); len(errs) != 0 || got != "" || e != api.ErrLarge {
			t.Errorf("Run of %d orders: %v, %q, error %v", len(orders), errs, got, e)
		}
	}
	for _, x := range notMade() {
		for _, orders := range [][]string{nil, {"fog", "fog"}, make([]string, 101)} {
			if errs, got, e := Run(x.t, x.w, x.b, orders); len(errs) != 0 || got != "" || e != x.want {
				t.Errorf("Run with %s: %v, %q, error %v, want %v", x.name, errs, got, e, x.want)
			}
		}
	}
}

// audited is a station of which all numbers are above 0.
func audited(t *testing.T) *Station {
	t.Helper()
	return usual(t, "pump 6", "stock 9", "wait 2", "fog", "wait 4", "fire 11", "clear", "fire 3", "wait 1", "pump 7", "set 1")
}

func TestP93Audit(t *testing.T) {
	for _, l := range doings() {
		if s := usual(t, l...); !s.Audit() || !s.Audit() {
			t.Errorf("Audit is false after %q", l)
		}
	}
	s := audited(t)
	wantSeen(t, s, seen{hour: 7, state: 1, air: 7, stock: 5, foggy: 4, sounded: 3, missed: 1, fired: 14, used: 4})
	before := see(s)
	if !s.Audit() || see(s) != before {
		t.Errorf("Audit is false, or changes the station: %+v, want %+v", see(s), before)
	}
	// It looks at a station that is used further, too.
	wantDone(t, s, "pump 1", api.OK)
	if !s.Audit() {
		t.Error("Audit is false after one more order")
	}
}

func TestP93AuditFindsWhatIsAltered(t *testing.T) {
	for i, alter := range []func(s *Station){
		func(s *Station) { s.now.hour++ },
		func(s *Station) { s.now.fog = true },
		func(s *Station) { s.now.state = 0 },
		func(s *Station) { s.now.air.here++ },
		func(s *Station) { s.now.air.came++ },
		func(s *Station) { s.now.air.here++; s.now.air.came++ },
		func(s *Station) { s.now.stock.here-- },
		func(s *Station) { s.now.stock.came-- },
		func(s *Station) { s.now.stock.here++; s.now.stock.came++ },
		func(s *Station) { s.now.foggy-- },
		func(s *Station) { s.now.foggy = 8 },
		func(s *Station) { s.now.sounded-- },
		func(s *Station) { s.now.sounded++; s.now.air.here -= 2 },
		func(s *Station) { s.now.missed-- },
		func(s *Station) { s.now.missed = 5 },
		func(s *Station) { s.now.fired++ },
		func(s *Station) { s.now.used++ },
		func(s *Station) { s.now.used++; s.now.stock.here-- },
		func(s *Station) { s.orders = s.orders[:len(s.orders)-1] },
		func(s *Station) { s.orders = append(s.orders, "wait 1") },
		func(s *Station) { s.orders[0] = "pump 7" },
		func(s *Station) { s.orders[3] = "clear" },
		func(s *Station) { s.orders = append(s.orders, "x\ny") },
		func(s *Station) { s.tone[2] = 1 },
		func(s *Station) { s.weights[0] = 2 },
		func(s *Station) { s.box.Out[1] = 0 },
	} {
		s := audited(t)
		alter(s)
		if s.Audit() {
			t.Errorf("Audit is true after the change %d", i)
		}
	}
}

func TestP93AuditAccounts(t *testing.T) {
	for i, alter := range []func(s *Station){
		func(s *Station) { s.now.air.here++ },
		func(s *Station) { s.now.air.here-- },
		func(s *Station) { s.now.air.came++ },
		func(s *Station) { s.now.sounded--; s.now.air.here++ },
		func(s *Station) { s.now.stock.here++ },
		func(s *Station) { s.now.stock.came++ },
		func(s *Station) { s.now.used++ },
		func(s *Station) { s.now.foggy = s.now.hour + 1 },
		func(s *Station) { s.now.missed = s.now.hour - s.now.sounded + 1 },
		func(s *Station) { s.now.hour = 3 },
	} {
		s := audited(t)
		if !s.isBalanced() {
			t.Fatal("the accounts of a station are not balanced")
		}
		alter(s)
		if s.isBalanced() {
			t.Errorf("the accounts are balanced after the change %d", i)
		}
	}
	// All hours may be foggy, and in all of them it may sound or miss.
	if s := usual(t, "fog", "pump 2", "wait 3"); !s.isBalanced() {
		t.Error("the accounts are not balanced after hours that were all foggy")
	}
}
