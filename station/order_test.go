package station

import (
	"errors"
	"strings"
	"testing"

	"diaphone/api"
)

// malformed are texts that are no orders.
func malformed() []string {
	out := []string{
		"", " ", "\n", "x", "fo", "fogs", "Fog", "FOG", " fog", "fog ", "fog\n", "\nfog", "fog\x00", "fog\r", "fog 1", "fog 0", "fog  ", "clear ", "clear 1", "Clear", "fog clear", "fog\nclear", "fogclear",
		"pump1", "Pump 1", "set1", "1", "1 pump", "stop 1", "fires 1",
		strings.Repeat("f", api.MaxLine), strings.Repeat("f", api.MaxLine+1), "pump " + strings.Repeat("0", api.MaxLine-6) + "1", "pump " + strings.Repeat("0", api.MaxLine) + "1", "fog" + strings.Repeat(" ", 1000),
	}
	for _, word := range []string{"pump", "wait", "stock", "fire", "set"} {
		out = append(out, word)
		for _, rest := range []string{"", " ", "1", " 1 ", "  1", " 1 1", "\t1", "\n1", " 1\n", " 1\x00", " 01", " 00", " 0001", " -1", " -0", " +1", " +0", " 1.", " 1e1", " 0x1", " 1_0", " x", " K", " ١", " 10000", " 99999", " 9223372036854775807", " 9223372036854775808", " 18446744073709551617", " 1 fog"} {
			out = append(out, word+rest)
		}
		out = append(out, strings.ToUpper(word)+" 1", " "+word+" 1")
	}
	return out
}

func TestP91Syntax(t *testing.T) {
	s := usual(t)
	for _, text := range malformed() {
		wantDone(t, s, text, api.ErrSyntax)
	}
	// Whatever is wrong with it otherwise, this is an order.
	wantSteps(t, s,
		step{"fog", api.OK}, step{"clear", api.OK},
		step{"pump 0", api.ErrArg}, step{"pump 1", api.OK}, step{"pump 10", api.OK}, step{"pump 9999", api.ErrLarge},
		step{"wait 0", api.ErrArg}, step{"wait 9", api.OK}, step{"wait 9999", api.ErrArg},
		step{"stock 0", api.ErrArg}, step{"stock 100", api.OK}, step{"stock 9999", api.ErrLarge},
		step{"fire 0", api.ErrArg}, step{"fire 90", api.OK}, step{"fire 9999", api.ErrArg},
		step{"set 0", api.ErrTwice}, step{"set 1", api.OK}, step{"set 9999", api.ErrNone},
	)
}

func TestP91SyntaxBeforeAFullBook(t *testing.T) {
	s := usual(t)
	for i := range api.MaxPages {
		order := "fog"
		if i%2 == 1 {
			order = "clear"
		}
		wantDone(t, s, order, api.OK)
	}
	for _, text := range malformed() {
		wantDone(t, s, text, api.ErrSyntax)
	}
	for _, order := range []string{"fog", "clear", "pump 1", "pump 0", "pump 9999", "wait 1", "wait 0", "stock 1", "stock 0", "stock 501", "fire 0", "fire 7", "fire 9", "set 0", "set 1", "set 2"} {
		wantDone(t, s, order, api.ErrLarge)
	}
}

func TestP91RefusedOrders(t *testing.T) {
	for e := api.ErrArg; e <= api.ErrBroken; e++ {
		if got := reason(refused{e}); got != e {
			t.Errorf("the reason is %v, want %v", got, e)
		}
		if got := reason(errors.Join(errors.New("wrapped"), refused{e})); got != e {
			t.Errorf("the reason of a wrapped error is %v, want %v", got, e)
		}
	}
	if got := reason(nil); got != api.OK {
		t.Errorf("the reason of an order that is not refused is %v", got)
	}
	if got := (refused{api.ErrTwice}).Error(); got != "the order is refused: error 5" {
		t.Errorf("the text of the error is %q", got)
	}
}
