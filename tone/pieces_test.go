package tone

import (
	"math"
	"slices"
	"strconv"
	"testing"

	"diaphone/api"
)

// plainPieces returns the pieces of n seconds as texts, from a tone that is written out.
func plainPieces(t []int, n int) map[string]bool {
	seconds := long(t, n+len(t))
	out := map[string]bool{}
	for from := range t {
		text := ""
		for _, x := range seconds[from : from+n] {
			text += strconv.Itoa(x)
		}
		out[text] = true
	}
	return out
}

func plainMeet(s, t []int, n int) bool {
	other := plainPieces(t, n)
	for p := range plainPieces(s, n) {
		if other[p] {
			return true
		}
	}
	return false
}

func plainListen(s, t []int) (int, bool) {
	for n := range 40 {
		if !plainMeet(s, t, n) {
			return n, true
		}
	}
	return 0, false
}

func gcd(a, b int) int {
	for b != 0 {
		a, b = b, a%b
	}
	return a
}

func bound(s, t []int) int {
	p, _ := Period(s)
	q, _ := Period(t)
	return p + q - gcd(p, q)
}

func wantFound(t *testing.T, what string, got int, ok bool, e api.Errno, want int, wantOk bool) {
	t.Helper()
	if got != want || ok != wantOk || e != api.OK {
		t.Errorf("%s: %v %v %v, want %v %v", what, got, ok, e, want, wantOk)
	}
}

func TestP13Agree(t *testing.T) {
	all := tonesUpTo(6)
	for _, x := range all {
		for _, y := range all {
			a, b := long(x, far), long(y, far)
			want, differ := 0, !slices.Equal(a, b)
			for differ && a[want] == b[want] {
				want++
			}
			n, ok, e := Agree(x, y)
			wantFound(t, "Agree", n, ok, e, want, differ)
			if ok && n >= bound(x, y) {
				t.Errorf("Agree %v %v: %d is not below the bound", x, y, n)
			}
		}
	}
	n, ok, e := Agree([]int{1, 0}, []int{1, 0, 0})
	wantFound(t, "example 2", n, ok, e, 2, true)
	n, ok, e = Agree([]int{1, 0}, []int{1, 0, 1, 0})
	wantFound(t, "the same tones", n, ok, e, 0, false)
	n, ok, e = Agree([]int{1}, []int{0})
	wantFound(t, "tones that differ at once", n, ok, e, 0, true)
}

// fibonacci returns a tone of n seconds that agrees with the other Fibonacci tones for as long as S1 allows.
func fibonacci(n int) []int {
	short, t := []int{1}, []int{1, 0}
	for len(t) < n {
		short, t = t, append(slices.Clone(t), short...)
	}
	return t[:n]
}

func TestP13AgreeReachesItsBound(t *testing.T) {
	n, ok, e := Agree(fibonacci(13), fibonacci(8))
	wantFound(t, "Agree", n, ok, e, 13+8-1-1, true)
	n, ok, e = Agree(fibonacci(21), fibonacci(13))
	wantFound(t, "Agree beyond both lengths", n, ok, e, 21+13-1-1, true)
}

func TestP13Listen(t *testing.T) {
	all := tonesUpTo(5)
	for _, x := range all {
		for _, y := range all {
			want, wantOk := plainListen(x, y)
			n, ok, e := Listen(x, y)
			wantFound(t, "Listen", n, ok, e, want, wantOk)
			if n > bound(x, y) {
				t.Errorf("Listen %v %v: %d is above the bound", x, y, n)
			}
		}
	}
	n, ok, e := Listen([]int{1, 0}, []int{1, 0, 0})
	wantFound(t, "example 2", n, ok, e, 4, true)
	n, ok, e = Listen([]int{1, 0, 1, 0}, []int{0, 1})
	wantFound(t, "tones that are alike", n, ok, e, 0, false)
	n, ok, e = Listen([]int{1}, []int{0})
	wantFound(t, "sound and silence", n, ok, e, 1, true)
	n, ok, e = Listen(fibonacci(21), fibonacci(13))
	wantFound(t, "Listen beyond both lengths", n, ok, e, 21+13-1, true)
	n, ok, e = Listen(one(0, 24), one(0, 23))
	wantFound(t, "Listen of the longest tones", n, ok, e, 46, true)
}

func TestP14Pieces(t *testing.T) {
	for _, x := range tonesUpTo(6) {
		p, _ := Period(x)
		before := 1
		for n := 0; n <= api.MaxPiece; n++ {
			k, e := Pieces(x, n)
			wantNumber(t, "Pieces", k, e, len(plainPieces(x, n)))
			if n == 0 && k != 1 || k < before || n >= p-1 && k != p {
				t.Errorf("Pieces %v %d: %d", x, n, k)
			}
			before = k
		}
	}
	for n, want := range map[int]int{0: 1, 1: 2, 22: 23, 23: 24, api.MaxPiece: 24} {
		k, e := Pieces(one(5, api.MaxTone), n)
		wantNumber(t, "Pieces of the longest tone", k, e, want)
	}
	for _, n := range []int{-1, api.MaxPiece + 1, math.MinInt, math.MaxInt} {
		k, e := Pieces([]int{1, 0}, n)
		wantRefused(t, "Pieces of a wrong number of seconds", k == 0, e, api.ErrArg)
	}
}

func TestP14Tell(t *testing.T) {
	l := [][]int{{1, 0}, {1, 0, 0}, {1}, {0, 1}, {0}, {1, 1, 0}}
	for n := range 8 {
		for _, p := range tonesOf(n) {
			text := ""
			for _, x := range p {
				text += strconv.Itoa(x)
			}
			var want []int
			for i, x := range l {
				if plainPieces(x, n)[text] {
					want = append(want, i)
				}
			}
			m, e := Tell(l, p)
			wantList(t, "Tell "+text, m, e, want)
		}
	}
	m, e := Tell(l, nil)
	wantList(t, "Tell of the empty piece", m, e, []int{0, 1, 2, 3, 4, 5})
	m, e = Tell(nil, []int{1})
	wantList(t, "Tell of no tones", m, e, nil)
	m, e = Tell(l, long([]int{0, 1}, api.MaxPiece))
	wantList(t, "Tell of the longest piece", m, e, []int{0, 3})
	m, e = Tell(l, append(long([]int{0, 1}, api.MaxPiece-1), 0))
	wantList(t, "Tell of the longest piece with another end", m, e, nil)
}

func TestP14TellRefuses(t *testing.T) {
	l := [][]int{{1, 0}}
	for _, x := range []struct {
		p []int
		e api.Errno
	}{
		{make([]int, api.MaxPiece+1), api.ErrLarge},
		{append(make([]int, api.MaxPiece), 2), api.ErrLarge},
		{[]int{2}, api.ErrArg},
		{[]int{1, 0, -1}, api.ErrArg},
		{append(make([]int, api.MaxPiece-1), math.MaxInt), api.ErrArg},
	} {
		m, e := Tell(l, x.p)
		wantRefused(t, "Tell", len(m) == 0, e, x.e)
		m, e = Tell(nil, x.p)
		wantRefused(t, "Tell without tones", len(m) == 0, e, x.e)
	}
}

func TestP14Apart(t *testing.T) {
	all := tonesUpTo(3)
	for _, x := range all {
		for _, y := range all {
			for _, z := range all {
				a, okA := plainListen(x, y)
				b, okB := plainListen(x, z)
				c, okC := plainListen(y, z)
				want, wantOk := max(a, b, c), okA && okB && okC
				if !wantOk {
					want = 0
				}
				n, ok, e := Apart([][]int{x, y, z})
				wantFound(t, "Apart", n, ok, e, want, wantOk)
			}
		}
	}
	n, ok, e := Apart(nil)
	wantFound(t, "Apart of no tone", n, ok, e, 0, true)
	n, ok, e = Apart([][]int{{1, 0}})
	wantFound(t, "Apart of one tone", n, ok, e, 0, true)
	n, ok, e = Apart([][]int{{1, 0}, {1, 0, 0}, {1}, {0}, one(0, 23), one(0, 24)})
	wantFound(t, "Apart of the most tones", n, ok, e, 46, true)
	n, ok, e = Apart([][]int{{1}, {0}, one(0, 23), {1, 0}, one(3, 23)})
	wantFound(t, "Apart of tones of which two are alike", n, ok, e, 0, false)
}
