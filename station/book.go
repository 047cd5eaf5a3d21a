package station

import (
	"strconv"
	"strings"

	"diaphone/api"
)

// Of the sums in a book.
const (
	modulus = 1000003
	factor  = 257
)

// Sum: see P9.4.
func Sum(before int, text string) int {
	sum := before % modulus
	if sum < 0 {
		sum += modulus
	}
	for i := range len(text) {
		sum = (sum*factor + int(text[i]) + 1) % modulus
	}
	return sum
}

// isLine reports whether a text has from 1 to MaxLine bytes.
func isLine(text string) bool {
	return len(text) >= 1 && len(text) <= api.MaxLine
}

// isEntry reports whether a text may be an order in a book: there it need not be one that a station knows.
func isEntry(text string) bool {
	return isLine(text) && !strings.Contains(text, "\n")
}

func line(sum int, order string) string {
	return strconv.Itoa(sum) + " " + order + "\n"
}

// Write: see P9.4.
func Write(orders []string) (string, api.Errno) {
	if len(orders) > api.MaxPages {
		return "", api.ErrLarge
	}
	for _, order := range orders {
		if !isEntry(order) {
			return "", api.ErrArg
		}
	}
	return write(orders), api.OK
}

func write(orders []string) string {
	var book strings.Builder
	sum := 0
	for _, order := range orders {
		sum = Sum(sum, order)
		book.WriteString(line(sum, order))
	}
	return book.String()
}

// Read: see P9.4.
func Read(book string) ([]string, string) {
	var orders []string
	sum := 0
	for len(orders) < api.MaxPages {
		order := firstEntry(book)
		if !isEntry(order) {
			break
		}
		sum = Sum(sum, order)
		rest, ok := strings.CutPrefix(book, line(sum, order))
		if !ok {
			break
		}
		orders = append(orders, order)
		book = rest
	}
	return orders, book
}

// firstEntry returns what stands behind the first blank in the first line of a book, ended or not.
func firstEntry(book string) string {
	text, _, _ := strings.Cut(book, "\n")
	_, order, _ := strings.Cut(text, " ")
	return order
}

// Book: see P9.4.
func (s *Station) Book() string {
	if s == nil {
		return ""
	}
	s.lock.Lock()
	defer s.lock.Unlock()
	return write(s.orders)
}
