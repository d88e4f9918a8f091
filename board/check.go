package board

import (
	"slices"
	"strings"

	"bakelite/api"
	"bakelite/chip"
	"bakelite/table"
)

const (
	point  = "."       // between a name and a pin
	asking = "irq"     // the pin of the chips that ask for interrupts
	heard  = "cpu.irq" // the pin at which the processor hears them
)

// Check validates a board.
func Check(b api.Board) api.Errno {
	if !table.Name(b.Name) {
		return api.ErrName
	}
	if err := table.Check(b.Cpu); err != api.OK {
		return err
	}
	if err := checkChips(b.Chips); err != api.OK {
		return err
	}
	return checkWires(b.Wires, b.Chips)
}

// checkChips validates chips, each of them and then beside the ones before it.
func checkChips(l []api.Chip) api.Errno {
	if len(l) > api.MaxChips {
		return api.ErrLarge
	}
	for n, c := range l {
		if err := chip.Check(c); err != api.OK {
			return err
		}
		for _, earlier := range l[:n] {
			if earlier.Name == c.Name {
				return api.ErrThere
			}
			if overlap(earlier, c) {
				return api.ErrClash
			}
		}
	}
	return api.OK
}

// overlap reports whether two valid chips have an address in common.
func overlap(a, b api.Chip) bool {
	return a.Base < b.Base+b.Size && b.Base < a.Base+a.Size
}

// checkWires validates wires, each of them and then beside the ones before it.
func checkWires(l []api.Wire, chips []api.Chip) api.Errno {
	if len(l) > api.MaxWires {
		return api.ErrLarge
	}
	for n, w := range l {
		if err := checkWire(w, chips); err != api.OK {
			return err
		}
		if slices.Contains(l[:n], w) {
			return api.ErrThere
		}
	}
	return api.OK
}

// checkWire validates the ends of a wire.
func checkWire(w api.Wire, chips []api.Chip) api.Errno {
	name, pin, _ := strings.Cut(w.From, point)
	at := slices.IndexFunc(chips, func(c api.Chip) bool { return c.Name == name })
	switch {
	case at < 0:
		return api.ErrNone
	case pin != asking || !Asks(chips[at].Kind):
		return api.ErrType
	case w.To != heard:
		return api.ErrBan
	}
	return api.OK
}
