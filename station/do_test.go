package station

import (
	"strconv"
	"strings"
	"testing"

	"diaphone/api"
)

func TestP91Fog(t *testing.T) {
	s := usual(t)
	wantDone(t, s, "clear", api.ErrState)
	wantDone(t, s, "fog", api.OK)
	wantSeen(t, s, seen{fog: true})
	wantDone(t, s, "fog", api.ErrTwice)
	wantDone(t, s, "clear", api.OK)
	wantSeen(t, s, seen{})
	wantDone(t, s, "clear", api.ErrState)
}

func TestP91Pump(t *testing.T) {
	s := usual(t)
	wantSteps(t, s,
		step{"pump 0", api.ErrArg}, step{"pump 501", api.ErrLarge}, step{"pump 1", api.OK}, step{"pump 500", api.ErrLarge}, step{"pump 499", api.OK}, step{"pump 1", api.ErrLarge}, step{"pump 0", api.ErrArg},
	)
	wantSeen(t, s, seen{air: 500})
	// What sounding took can come again.
	wantSteps(t, s,
		step{"fog", api.OK}, step{"wait 2", api.OK}, step{"pump 5", api.ErrLarge}, step{"pump 4", api.OK},
	)
	wantSeen(t, s, seen{hour: 2, fog: true, state: 1, air: 500, foggy: 2, sounded: 2})
	wantSeen(t, usual(t, "pump 500"), seen{air: 500})
}

func TestP91Wait(t *testing.T) {
	for _, n := range []int{0, 100, 101, 500, 1000, 9999} {
		wantDone(t, usual(t), "wait "+strconv.Itoa(n), api.ErrArg)
	}
	wantSeen(t, usual(t, "pump 5", "fog", "wait 3"), seen{hour: 3, fog: true, state: 1, air: 1, foggy: 3, sounded: 2, missed: 1})
	wantSeen(t, usual(t, "pump 4", "fog", "wait 3"), seen{hour: 3, fog: true, state: 1, foggy: 3, sounded: 2, missed: 1})
	wantSeen(t, usual(t, "fog", "wait 99"), seen{hour: 99, fog: true, state: 1, foggy: 99, missed: 99})
	wantSeen(t, usual(t, "pump 9", "wait 99"), seen{hour: 99, air: 9})
	// It is the signal of the next state that counts, not that of the state before.
	wantSeen(t, usual(t, "pump 9", "set 1", "wait 1"), seen{hour: 1, air: 9})
	wantSeen(t, usual(t, "pump 9", "fog", "wait 1", "clear", "wait 1"), seen{hour: 2, air: 7, foggy: 1, sounded: 1})
	// An hour that is missed takes nothing, also if there is some air.
	wantSeen(t, usual(t, "pump 1", "fog", "wait 2", "pump 1", "wait 1"), seen{hour: 3, fog: true, state: 1, foggy: 3, sounded: 1, missed: 2})
}

func TestP91WaitWithOtherBoxes(t *testing.T) {
	// It sounds also without fog, by each signal but 0.
	round := makeStation(t, []int{1, 0, 1, 1}, []int{1}, clock(0, 1, 2, 3), "pump 100", "wait 9")
	wantSeen(t, round, seen{hour: 9, state: 1, air: 79, sounded: 7})
	// Without a need it never misses.
	quiet := makeStation(t, []int{0, 0}, []int{1}, clock(2), "wait 99", "fog", "wait 1")
	wantSeen(t, quiet, seen{hour: 100, fog: true, foggy: 1, sounded: 100})
	silent := makeStation(t, []int{1}, []int{1}, clock(0, 0), "fog", "wait 99")
	wantSeen(t, silent, seen{hour: 99, fog: true, state: 1, foggy: 99})
	loud := makeStation(t, []int{1, 1, 1, 1, 1, 1, 1, 1, 1, 1, 1, 1, 1, 1, 1, 1, 1, 1, 1, 1, 1, 1, 1, 1}, []int{1}, clock(3), "pump 500", "wait 50")
	wantSeen(t, loud, seen{hour: 50, air: 20, sounded: 20, missed: 30})
}

func TestP92Stock(t *testing.T) {
	s := usual(t)
	wantSteps(t, s,
		step{"stock 0", api.ErrArg}, step{"stock 501", api.ErrLarge}, step{"stock 1", api.OK}, step{"stock 500", api.ErrLarge}, step{"stock 499", api.OK}, step{"stock 1", api.ErrLarge}, step{"stock 0", api.ErrArg},
	)
	wantSeen(t, s, seen{stock: 500})
	// What was fired can come again.
	wantDone(t, s, "fire 8", api.OK)
	wantDone(t, s, "stock 3", api.ErrLarge)
	wantDone(t, s, "stock 2", api.OK)
	wantSeen(t, s, seen{stock: 500, fired: 8, used: 2})
	wantSeen(t, usual(t, "stock 500"), seen{stock: 500})
}

func TestP92Fire(t *testing.T) {
	s := usual(t, "stock 4")
	wantSteps(t, s,
		step{"fire 0", api.ErrArg}, step{"fire 2001", api.ErrArg}, step{"fire 9999", api.ErrArg}, step{"fire 1", api.ErrRule}, step{"fire 7", api.ErrRule}, step{"fire 2000", api.ErrShort}, step{"fire 21", api.ErrShort},
		step{"fire 8", api.OK}, step{"fire 7", api.ErrRule}, step{"fire 9", api.ErrShort}, step{"fire 10", api.OK}, step{"fire 3", api.ErrShort}, step{"fire 4", api.ErrRule},
	)
	wantSeen(t, s, seen{fired: 18, used: 4})
	wantSeen(t, usual(t, "stock 400", "fire 2000"), seen{fired: 2000, used: 400})
	wantSeen(t, usual(t, "stock 20", "fire 11", "fire 11", "fire 3"), seen{stock: 13, fired: 25, used: 7})
	// Not the greatest weights first, but the fewest cartridges.
	fewest := makeStation(t, []int{1}, []int{1, 3, 4}, siren(), "stock 2", "fire 6")
	wantSeen(t, fewest, seen{fired: 6, used: 2})
	// 2000 takes more than a stock can have.
	ones := makeStation(t, []int{1}, []int{1}, siren(), "stock 500", "fire 499")
	wantDone(t, ones, "fire 2000", api.ErrShort)
	wantDone(t, ones, "fire 2", api.ErrShort)
	wantDone(t, ones, "fire 1", api.OK)
	even := makeStation(t, []int{1}, []int{4, 6}, siren())
	wantDone(t, even, "fire 1999", api.ErrRule)
	wantDone(t, even, "fire 2000", api.ErrShort)
}

func TestP92Set(t *testing.T) {
	s := usual(t)
	wantSteps(t, s,
		step{"set 0", api.ErrTwice}, step{"set 2", api.ErrNone}, step{"set 9999", api.ErrNone}, step{"set 1", api.OK}, step{"set 1", api.ErrTwice}, step{"set 2", api.ErrNone}, step{"set 0", api.OK},
	)
	wantSeen(t, s, seen{})
	six := makeStation(t, []int{1}, []int{1}, clock(0, 0, 0, 0, 0, 1), "set 4", "wait 1")
	wantSeen(t, six, seen{hour: 1, state: 5, missed: 1})
	wantDone(t, six, "set 5", api.ErrTwice)
	wantDone(t, six, "set 6", api.ErrNone)
	one := makeStation(t, []int{1}, []int{1}, clock(0))
	wantDone(t, one, "set 0", api.ErrTwice)
	wantDone(t, one, "set 1", api.ErrNone)
}

// plain tells all of a station from the orders that were done.
type plain struct {
	tone, weights []int
	box           api.Box
	done          []string
}

func (p plain) words(i int) (string, int) {
	word, number, _ := strings.Cut(p.done[i], " ")
	n, _ := strconv.Atoi(number)
	return word, n
}

// sum adds the numbers of all orders with a word.
func (p plain) sum(word string) int {
	sum := 0
	for i := range p.done {
		if w, n := p.words(i); w == word {
			sum += n
		}
	}
	return sum
}

func (p plain) seen() seen {
	var out seen
	need := 0
	for _, second := range p.tone {
		need += second
	}
	for i := range p.done {
		switch word, n := p.words(i); word {
		case "fog", "clear":
			out.fog = word == "fog"
		case "set":
			out.state = n
		case "pump":
			out.air += n
		case "fire":
			out.used += p.fewest(n)
		case "wait":
			for ; n > 0; n-- {
				p.hour(&out, need)
			}
		}
	}
	out.hour, out.fired, out.stock = p.sum("wait"), p.sum("fire"), p.sum("stock")-out.used
	return out
}

func (p plain) hour(out *seen, need int) {
	next := p.box.Next[out.state]
	out.state = next[0]
	if out.fog {
		out.state = next[1]
		out.foggy++
	}
	switch {
	case p.box.Out[out.state] == 0:
	case out.air >= need:
		out.sounded, out.air = out.sounded+1, out.air-need
	default:
		out.missed++
	}
}

// fewest tries all numbers of all weights but the smallest one; -1 if an amount is not made up.
func (p plain) fewest(amount int) int {
	least := -1
	var try func(i, left, used int)
	try = func(i, left, used int) {
		if i == 0 {
			if n := used + left/p.weights[0]; left%p.weights[0] == 0 && (least < 0 || n < least) {
				least = n
			}
			return
		}
		for ; left >= 0; left -= p.weights[i] {
			try(i-1, left, used)
			used++
		}
	}
	try(len(p.weights)-1, amount, 0)
	return least
}

// want returns the error of an order.
func (p plain) want(order string) api.Errno {
	isOrder := order == "fog" || order == "clear"
	word, n := "", 0
	for _, w := range []string{"pump", "wait", "stock", "fire", "set"} {
		for i := range 10000 {
			if strings.HasPrefix(order, w) && order == w+" "+strconv.Itoa(i) {
				isOrder, word, n = true, w, i
			}
		}
	}
	now := p.seen()
	switch {
	case !isOrder:
		return api.ErrSyntax
	case len(p.done) >= 100:
		return api.ErrLarge
	case order == "fog" && now.fog:
		return api.ErrTwice
	case order == "clear" && !now.fog:
		return api.ErrState
	case word != "" && word != "set" && n == 0, word == "wait" && n > 99, word == "fire" && n > 2000:
		return api.ErrArg
	case word == "pump" && now.air+n > 500, word == "stock" && now.stock+n > 500:
		return api.ErrLarge
	case word == "fire" && p.fewest(n) < 0:
		return api.ErrRule
	case word == "fire" && p.fewest(n) > now.stock:
		return api.ErrShort
	case word == "set" && n >= len(p.box.Out):
		return api.ErrNone
	case word == "set" && n == now.state:
		return api.ErrTwice
	}
	return api.OK
}

func plainStations() []plain {
	cross := api.Box{Next: [][2]int{{1, 2}, {3, 0}, {2, 5}, {4, 4}, {0, 1}, {5, 3}}, Out: []int{0, 1, 2, 0, 3, 1}}
	return []plain{
		{tone: []int{1, 1, 0}, weights: []int{3, 5}, box: siren()},
		{tone: []int{1}, weights: []int{1}, box: clock(0, 1, 0)},
		{tone: []int{0, 0, 0}, weights: []int{4, 6}, box: cross},
		{tone: []int{1, 0, 1, 1, 1, 0, 0, 1}, weights: []int{2, 7, 11, 30}, box: cross},
		{tone: []int{1, 1, 1, 1, 1, 1, 1, 1, 1, 1, 1, 1, 1, 1, 1, 1, 1, 1, 1, 1, 1, 1, 1, 1}, weights: []int{6, 10, 15}, box: clock(1)},
	}
}

func TestP93AgainstThePlainStation(t *testing.T) {
	m := mixer(2026)
	for _, small := range []int{4, 20, 120, 700} {
		for _, p := range plainStations() {
			s := makeStation(t, p.tone, p.weights, p.box)
			for range 180 {
				order := m.order(small)
				want := p.want(order)
				wantDone(t, s, order, want)
				if want == api.OK {
					p.done = append(p.done, order)
				}
				wantSeen(t, s, p.seen())
			}
			if !s.Audit() {
				t.Errorf("Audit is false after %q", p.done)
			}
		}
	}
}
