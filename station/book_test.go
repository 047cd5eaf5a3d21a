package station

import (
	"math"
	"math/big"
	"slices"
	"strings"
	"testing"

	"diaphone/api"
)

// plainSum adds the number and all bytes, each times a power of 257, and takes the remainder at the end.
func plainSum(before int, text string) int {
	sum, power := new(big.Int), big.NewInt(1)
	for i := len(text) - 1; i >= 0; i-- {
		sum.Add(sum, new(big.Int).Mul(power, big.NewInt(int64(text[i])+1)))
		power.Mul(power, big.NewInt(257))
	}
	sum.Add(sum, new(big.Int).Mul(power, big.NewInt(int64(before))))
	return int(sum.Mod(sum, big.NewInt(1000003)).Int64())
}

func TestP94Sum(t *testing.T) {
	texts := []string{"", "f", "fog", "clear", "pump 500", " ", "\n", "\x00", "\x00\x00", "\xff", "\xff\xfe\xfd", "ä", "霧", strings.Repeat("\xff", 40), strings.Repeat("fog\n", 500)}
	numbers := []int{0, 1, -1, 2, 831917, 1000002, 1000003, 1000004, -1000002, -1000003, -1000004, 2000006, 1 << 31, -1 << 31, math.MaxInt, math.MinInt, math.MaxInt - 1, math.MinInt + 1}
	for _, text := range texts {
		for _, n := range numbers {
			if got, want := Sum(n, text), plainSum(n, text); got != want {
				t.Errorf("Sum of %d and %q: %d, want %d", n, text, got, want)
			}
		}
	}
	if got := Sum(0, "fog"); got != 831917 {
		t.Errorf("Sum of 0 and fog: %d", got)
	}
	if got := Sum(Sum(7, "pump"), " 12"); got != Sum(7, "pump 12") {
		t.Errorf("Sum of a sum and the rest of a text: %d", got)
	}
}

// plainBook is the book of orders, with numbers written digit by digit.
func plainBook(orders []string) string {
	book, sum := "", 0
	for _, order := range orders {
		sum = plainSum(sum, order)
		digits := ""
		for n := sum; n > 0 || digits == ""; n /= 10 {
			digits = string(rune('0'+n%10)) + digits
		}
		book += digits + " " + order + "\n"
	}
	return book
}

// entryLists are lists of texts that a book may have.
func entryLists() [][]string {
	return [][]string{
		nil,
		{"fog"},
		{"fog", "pump 5", "wait 3"},
		{"fog", "fog", "fog"},
		{"x", " ", "  ", " x", "x ", "1 2 3", "\x00", "\xff\xfe", "\r", "霧 5"},
		{strings.Repeat("x", 40), strings.Repeat(" ", 40), strings.Repeat("\xff", 40)},
		slices.Repeat([]string{"wait 1"}, 100),
		slices.Repeat([]string{strings.Repeat("ab c", 10), "stock 1"}, 50),
	}
}

func TestP94Write(t *testing.T) {
	for _, l := range entryLists() {
		if got, e := Write(l); got != plainBook(l) || e != api.OK {
			t.Errorf("Write of %q: %q, error %v, want %q", l, got, e, plainBook(l))
		}
	}
	if got, e := Write([]string{"fog"}); got != "831917 fog\n" || e != api.OK {
		t.Errorf("Write of fog: %q, error %v", got, e)
	}
	if got, e := Write([]string{}); got != "" || e != api.OK {
		t.Errorf("Write of nothing: %q, error %v", got, e)
	}
	for _, x := range []struct {
		orders []string
		want   api.Errno
	}{
		{[]string{""}, api.ErrArg}, {[]string{"fog", ""}, api.ErrArg}, {[]string{"", "fog"}, api.ErrArg},
		{[]string{"\n"}, api.ErrArg}, {[]string{"fog\n"}, api.ErrArg}, {[]string{"\nfog"}, api.ErrArg}, {[]string{"fog", "a\nb", "fog"}, api.ErrArg},
		{[]string{strings.Repeat("x", 41)}, api.ErrArg}, {append(slices.Repeat([]string{"fog"}, 99), strings.Repeat("x", 1000)), api.ErrArg},
		{slices.Repeat([]string{"fog"}, 101), api.ErrLarge}, {slices.Repeat([]string{""}, 101), api.ErrLarge}, {make([]string, 1000), api.ErrLarge}, {make([]string, 100), api.ErrArg},
	} {
		if got, e := Write(x.orders); got != "" || e != x.want {
			t.Errorf("Write of %q: %q, error %v, want %v", x.orders, got, e, x.want)
		}
	}
}

// plainRead tries all beginnings of a text, the longest one first.
func plainRead(text string) ([]string, string) {
	for end := len(text); end > 0; end-- {
		if text[end-1] != '\n' {
			continue
		}
		var orders []string
		for _, line := range strings.Split(text[:end-1], "\n") {
			_, order, _ := strings.Cut(line, " ")
			orders = append(orders, order)
		}
		if book, e := Write(orders); e == api.OK && book == text[:end] {
			return orders, text[end:]
		}
	}
	return nil, text
}

func wantRead(t *testing.T, text string) {
	t.Helper()
	orders, rest := Read(text)
	wantOrders, wantRest := plainRead(text)
	if !slices.Equal(orders, wantOrders) || rest != wantRest {
		t.Errorf("Read of %q: %q and the rest %q, want %q and %q", text, orders, rest, wantOrders, wantRest)
	}
}

func TestP94Read(t *testing.T) {
	for _, l := range entryLists() {
		if orders, rest := Read(plainBook(l)); !slices.Equal(orders, l) || rest != "" {
			t.Errorf("Read of the book of %q: %q and the rest %q", l, orders, rest)
		}
		for _, rest := range []string{"\n", "x", " ", "0 \n", "0 fog", "831918 fog\n", "0\n", "\n\n", strings.Repeat("9", 100)} {
			if orders, got := Read(plainBook(l) + rest); !slices.Equal(orders, l) || got != rest {
				t.Errorf("Read of the book of %q and %q: %q and the rest %q", l, rest, orders, got)
			}
		}
	}
}

func TestP94ReadAlteredBooks(t *testing.T) {
	for _, l := range entryLists() {
		book := plainBook(l)
		for i := 0; i < len(book); i += 1 + len(book)/100 {
			wantRead(t, book[:i])
			wantRead(t, book[i:])
			wantRead(t, book[:i]+book[i+1:])
			for _, s := range []string{"0", "1", " ", "\n", "x", "\x00"} {
				wantRead(t, book[:i]+s+book[i:])
				wantRead(t, book[:i]+s+book[i+1:])
			}
		}
	}
	for _, text := range []string{"", "fog", "fog\n", " fog\n", "0831917 fog\n", "+831917 fog\n", "-168086 fog\n", "1831920 fog\n", "831917  fog\n", "831917\tfog\n", "831917fog\n", " 831917 fog\n", "831917 fog\r\n", "831917 fog \n", "831917\n", "0 \n", "0\n", "\n831917 fog\n", "831917 fog", "831918 fog\n"} {
		wantRead(t, text)
	}
}

func TestP94ReadLimits(t *testing.T) {
	long := strings.Repeat("x", 41)
	if orders, rest := Read(plainBook([]string{"fog", long, "fog"})); !slices.Equal(orders, []string{"fog"}) || !strings.HasSuffix(rest, " fog\n") || !strings.Contains(rest, long) {
		t.Errorf("Read of a book with a long line: %q and the rest %q", orders, rest)
	}
	if orders, rest := Read(plainBook([]string{"", "fog"})); len(orders) != 0 || rest != plainBook([]string{"", "fog"}) {
		t.Errorf("Read of a book with an empty order: %q and the rest %q", orders, rest)
	}
	for _, n := range []int{101, 102, 250} {
		l := slices.Repeat([]string{"fog", "clear"}, n)[:n]
		book := plainBook(l)
		rest := strings.Join(strings.SplitAfter(book, "\n")[100:], "")
		if orders, got := Read(book); !slices.Equal(orders, l[:100]) || got != rest {
			t.Errorf("Read of a book with %d lines: %q and the rest %q", n, orders, got)
		}
	}
}

func TestP94Book(t *testing.T) {
	s := usual(t)
	if s.Book() != "" {
		t.Errorf("the book of a new station is %q", s.Book())
	}
	var done []string
	for _, x := range []step{
		{"fog", api.OK}, {"fog", api.ErrTwice}, {"pump 5", api.OK}, {"x", api.ErrSyntax}, {"wait 3", api.OK}, {"clear", api.OK}, {"wait 3", api.OK}, {"pump 0", api.ErrArg}, {"stock 4", api.OK}, {"fire 7", api.ErrRule}, {"fire 8", api.OK}, {"set 1", api.OK}, {"set 2", api.ErrNone},
	} {
		wantDone(t, s, x.order, x.want)
		if x.want == api.OK {
			done = append(done, x.order)
		}
		if got := s.Book(); got != plainBook(done) {
			t.Errorf("the book after %q is %q, want %q", done, got, plainBook(done))
		}
	}
}
