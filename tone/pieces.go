package tone

import "diaphone/api"

// A piece is filled up with zeros, so only pieces with equal numbers of seconds may be compared.
type piece [api.MaxPiece]int

func pieceFrom(t []int, from, n int) piece {
	var p piece
	for i := range n {
		p[i] = second(t, from+i)
	}
	return p
}

func piecesOf(t []int, n int) map[piece]bool {
	all := map[piece]bool{}
	for from := range period(t) {
		all[pieceFrom(t, from, n)] = true
	}
	return all
}

func shareOne(a, b map[piece]bool) bool {
	for p := range a {
		if b[p] {
			return true
		}
	}
	return false
}

// Agree: see P1.3.
func Agree(s, t []int) (int, bool, api.Errno) {
	if e := validateBoth(s, t); e != api.OK {
		return 0, false, e
	}
	if same(s, t) {
		return 0, false, api.OK
	}
	n := 0
	for second(s, n) == second(t, n) {
		n++
	}
	return n, true, api.OK
}

// Listen: see P1.3.
func Listen(s, t []int) (int, bool, api.Errno) {
	if e := validateBoth(s, t); e != api.OK {
		return 0, false, e
	}
	n, ok := listen(s, t)
	return n, ok, api.OK
}

// listen stays within MaxPiece: by S1 it ends at both periods less their common measure, at most 24 + 23 - 1.
func listen(s, t []int) (int, bool) {
	if alike(s, t) {
		return 0, false
	}
	n := 0
	for shareOne(piecesOf(s, n), piecesOf(t, n)) {
		n++
	}
	return n, true
}

// Pieces: see P1.4.
func Pieces(t []int, n int) (int, api.Errno) {
	if e := Validate(t); e != api.OK {
		return 0, e
	}
	if n < 0 || n > api.MaxPiece {
		return 0, api.ErrArg
	}
	return len(piecesOf(t, n)), api.OK
}

// Tell: see P1.4.
func Tell(l [][]int, piece []int) ([]int, api.Errno) {
	if e := validateList(l); e != api.OK {
		return nil, e
	}
	n := len(piece)
	if n > api.MaxPiece {
		return nil, api.ErrLarge
	}
	if e := validateSeconds(piece); e != api.OK {
		return nil, e
	}
	var out []int
	for i, t := range l {
		if hasPiece(t, piece) {
			out = append(out, i)
		}
	}
	return out, api.OK
}

func hasPiece(t, seconds []int) bool {
	var p piece
	copy(p[:], seconds)
	return piecesOf(t, len(seconds))[p]
}

// Apart: see P1.4.
func Apart(l [][]int) (int, bool, api.Errno) {
	if e := validateList(l); e != api.OK {
		return 0, false, e
	}
	greatest := 0
	for i, s := range l {
		for _, t := range l[:i] {
			n, ok := listen(s, t)
			if !ok {
				return 0, false, api.OK
			}
			greatest = max(greatest, n)
		}
	}
	return greatest, true, api.OK
}
