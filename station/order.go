package station

import (
	"errors"
	"strconv"
	"strings"

	"diaphone/api"
)

// maxNumber is the greatest number of an order.
const maxNumber = 9999

// The kinds of orders.
const (
	fogOrder = iota
	clearOrder
	pumpOrder
	waitOrder
	stockOrder
	fireOrder
	setOrder
)

// An order has a number unless its kind has none.
type order struct {
	kind, number int
}

// refused is a refused order, by the reason for it.
type refused struct {
	reason api.Errno
}

func (r refused) Error() string {
	return "the order is refused: error " + strconv.Itoa(int(r.reason))
}

// reason returns why an order was refused, or OK if it was not.
func reason(err error) api.Errno {
	var r refused
	if errors.As(err, &r) {
		return r.reason
	}
	return api.OK
}

// parse returns the order that any text is.
func parse(text string) (order, error) {
	if !isLine(text) {
		return order{}, refused{api.ErrSyntax}
	}
	word, rest, more := strings.Cut(text, " ")
	kind, ok := kindOf(word)
	if !ok || more != hasNumber(kind) {
		return order{}, refused{api.ErrSyntax}
	}
	if !more {
		return order{kind: kind}, nil
	}
	n, ok := number(rest)
	if !ok {
		return order{}, refused{api.ErrSyntax}
	}
	return order{kind, n}, nil
}

func kindOf(word string) (int, bool) {
	switch word {
	case "fog":
		return fogOrder, true
	case "clear":
		return clearOrder, true
	case "pump":
		return pumpOrder, true
	case "wait":
		return waitOrder, true
	case "stock":
		return stockOrder, true
	case "fire":
		return fireOrder, true
	case "set":
		return setOrder, true
	}
	return 0, false
}

func hasNumber(kind int) bool {
	return kind != fogOrder && kind != clearOrder
}

// number returns the number that a word is. strconv also takes signs and leading zeros, which an order does not have.
func number(word string) (int, bool) {
	n, err := strconv.Atoi(word)
	if err != nil || n < 0 || n > maxNumber || strconv.Itoa(n) != word {
		return 0, false
	}
	return n, true
}
