package board

import (
	"slices"

	"bakelite/api"
)

const (
	addresses = 65536
	nobody    = -1 // the number of the chip of addresses that none has
)

// Range is a range of addresses: of a chip, or of none (-1).
type Range struct {
	From, To, Chip int
}

// Find returns the chip that has an address, and which of its addresses it is.
func Find(b api.Board, addr int) (int, int, bool) {
	for n := range b.Chips {
		if at, ok := place(b.Chips[n], addr); ok {
			return n, at, true
		}
	}
	return 0, 0, false
}

// place returns which of the addresses of a chip an address is, and whether it is one of them.
func place(c api.Chip, addr int) (int, bool) {
	if addr < c.Base || c.Size < 0 {
		return 0, false
	}
	// The distance of two numbers may be too large for an int, and is never too large for a uint.
	at := uint(addr) - uint(c.Base)
	return int(at), at < uint(c.Size)
}

// edges returns the addresses at which the chip may be another one, in order, from 0 to the one behind the last.
func edges(chips []api.Chip) []int {
	inside := func(addr int) int { return min(max(addr, 0), addresses) }
	l := []int{0, addresses}
	for _, c := range chips {
		// A sum too large for an int gives an edge at which nothing changes, which does no harm: such a chip ends beyond all addresses.
		l = append(l, inside(c.Base), inside(c.Base+c.Size))
	}
	slices.Sort(l)
	return slices.Compact(l)
}

// owner returns the number of the chip that has an address, or nobody.
func owner(b api.Board, addr int) int {
	if n, _, ok := Find(b, addr); ok {
		return n
	}
	return nobody
}

// Map returns all addresses in order, as ranges; To is behind the last one.
func Map(b api.Board) []Range {
	var ranges []Range
	from := 0
	for _, to := range edges(b.Chips)[1:] {
		n, last := owner(b, from), len(ranges)-1
		if last >= 0 && ranges[last].Chip == n {
			ranges[last].To = to
		} else {
			ranges = append(ranges, Range{From: from, To: to, Chip: n})
		}
		from = to
	}
	return ranges
}
