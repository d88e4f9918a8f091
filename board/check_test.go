package board_test

import (
	"fmt"
	"math"
	"math/rand"
	"slices"
	"strings"
	"testing"

	"bakelite/api"
	"bakelite/board"
	"bakelite/drive"
	"bakelite/std"
)

// sample is a valid board, whose chips are far from each other. Two of the three chips that ask for interrupts have a wire.
func sample() api.Board {
	cpu := std.Cpu()
	cpu.Instrs = cpu.Instrs[:7]
	return api.Board{
		Name: "board-1", Cpu: cpu,
		Chips: []api.Chip{
			{Name: "ram", Kind: api.Ram, Base: 0, Size: 256, Data: []byte{1, 2, 3}},
			{Name: "clock", Kind: api.Timer, Base: 2000, Size: 4},
			{Name: "line", Kind: api.Serial, Base: 40000, Size: 3},
			{Name: "lamps", Kind: api.Port, Base: 30000, Size: 2},
			{Name: "disks", Kind: api.Drive, Base: 20000, Size: 4, Data: make([]byte, drive.Disk)},
			{Name: "rom", Kind: api.Rom, Base: 65280, Size: 256, Data: []byte{255, 0, 255}},
		},
		Wires: []api.Wire{{From: "disks.irq", To: "cpu.irq"}, {From: "clock.irq", To: "cpu.irq"}},
	}
}

// timers is a board with timers alone, each of them with a wire.
func timers(many int) api.Board {
	b := api.Board{Name: "timers", Cpu: std.Cpu()}
	for n := range many {
		name := fmt.Sprintf("t%d", n)
		b.Chips = append(b.Chips, api.Chip{Name: name, Kind: api.Timer, Base: 4 * n, Size: 4})
		b.Wires = append(b.Wires, api.Wire{From: name + ".irq", To: "cpu.irq"})
	}
	return b
}

// fault makes a board one that Check returns an error for.
type fault struct {
	what string
	turn func(b *api.Board)
	want api.Errno
}

// faults are faults of the sample, in the order in which Check looks for them.
func faults() []fault {
	all := []fault{
		{"no name", func(b *api.Board) { b.Name = "" }, api.ErrName},
		{"no name of the processor", func(b *api.Board) { b.Cpu.Name = "" }, api.ErrName},
		{"instructions", func(b *api.Board) { b.Cpu.Instrs[3].Op = b.Cpu.Instrs[2].Op }, api.ErrOrder},
		{"cycles", func(b *api.Board) { b.Cpu.Nmi = make([]api.Cycle, 9) }, api.ErrLarge},
		{"13 chips", func(b *api.Board) { b.Chips = append(b.Chips, make([]api.Chip, 7)...) }, api.ErrLarge},
	}
	for n := range sample().Chips {
		all = append(all, faultsOfChip(n)...)
	}
	all = append(all, fault{"41 wires", func(b *api.Board) { b.Wires = append(b.Wires, make([]api.Wire, 39)...) }, api.ErrLarge})
	for n := range sample().Wires {
		all = append(all, faultsOfWire(n)...)
	}
	return all
}

func faultsOfChip(n int) []fault {
	all := []fault{
		{"name", func(b *api.Board) { b.Chips[n].Name = "a.b" }, api.ErrName},
		{"name cpu", func(b *api.Board) { b.Chips[n].Name = "cpu" }, api.ErrBan},
		{"kind", func(b *api.Board) { b.Chips[n].Kind = 9 }, api.ErrType},
		{"size", func(b *api.Board) { b.Chips[n].Size = 0 }, api.ErrArg},
		{"many data", func(b *api.Board) { b.Chips[n].Data = make([]byte, 4097) }, api.ErrLarge},
		{"base", func(b *api.Board) { b.Chips[n].Base = -1 }, api.ErrFar},
		{"data", func(b *api.Board) { b.Chips[n].Data = make([]byte, 257) }, api.ErrForm},
	}
	for m := range n {
		all = append(all,
			fault{"name of another", func(b *api.Board) { b.Chips[n].Name = b.Chips[m].Name }, api.ErrThere},
			fault{"base of another", func(b *api.Board) { b.Chips[n].Base = min(b.Chips[m].Base, 65536-b.Chips[n].Size) }, api.ErrClash})
	}
	return all
}

func faultsOfWire(n int) []fault {
	all := []fault{
		{"from nothing", func(b *api.Board) { b.Wires[n].From = "x.irq" }, api.ErrNone},
		{"from no pin", func(b *api.Board) { b.Wires[n].From = "clock" }, api.ErrType},
		{"from another pin", func(b *api.Board) { b.Wires[n].From = "clock.out" }, api.ErrType},
		{"from another kind", func(b *api.Board) { b.Wires[n].From = "lamps.irq" }, api.ErrType},
		{"to another pin", func(b *api.Board) { b.Wires[n].To = "cpu.nmi" }, api.ErrBan},
	}
	if n > 0 {
		all = append(all, fault{"wire again", func(b *api.Board) { b.Wires[n] = b.Wires[n-1] }, api.ErrThere})
	}
	return all
}

// P15.2
func TestOneFault(t *testing.T) {
	if e := board.Check(sample()); e != api.OK {
		t.Fatal(e)
	}
	for _, f := range faults() {
		b := sample()
		f.turn(&b)
		if e := board.Check(b); e != f.want {
			t.Errorf("%s: %v, not %v", f.what, e, f.want)
		}
	}
}

// P15.2: of two faults the one is told that is looked for first. It is made last, as both may change the same field.
func TestTwoFaults(t *testing.T) {
	all := faults()
	for n, first := range all {
		for _, second := range all[n+1:] {
			b := sample()
			second.turn(&b)
			first.turn(&b)
			if e := board.Check(b); e != first.want {
				t.Errorf("%s, then %s: %v, not %v", first.what, second.what, e, first.want)
			}
		}
	}
}

// P15.2: the name of a board may be that of one of its chips, or of the processor.
func TestCheckName(t *testing.T) {
	for name, want := range map[string]api.Errno{
		"a": api.OK, "cpu": api.OK, "ram": api.OK, "std": api.OK, "b-2": api.OK, strings.Repeat("z", 20): api.OK,
		"": api.ErrName, "B": api.ErrName, "2": api.ErrName, "-b": api.ErrName, "a.b": api.ErrName, " b": api.ErrName, "é": api.ErrName, strings.Repeat("z", 21): api.ErrName,
	} {
		b := sample()
		if b.Name = name; board.Check(b) != want {
			t.Errorf("%q: %v, not %v", name, board.Check(b), want)
		}
		if e := board.Check(api.Board{Name: name, Cpu: api.Cpu{Name: "c"}}); e != want {
			t.Errorf("%q without chips: %v, not %v", name, e, want)
		}
	}
}

// P15.2: up to 12 chips. No board can have as many wires as are permitted, as all of them differ.
func TestCheckMany(t *testing.T) {
	for many := range 50 {
		b := timers(many)
		want := api.OK
		if many > 12 {
			want = api.ErrLarge
		}
		if e := board.Check(b); e != want {
			t.Errorf("%d chips: %v, not %v", many, e, want)
		}
		b = timers(12)
		b.Wires, want = slices.Repeat(b.Wires[:1], many), api.ErrThere
		if many > 40 {
			want = api.ErrLarge
		} else if many < 2 {
			want = api.OK
		}
		if e := board.Check(b); e != want {
			t.Errorf("%d wires: %v, not %v", many, e, want)
		}
	}
	for _, b := range []api.Board{{Name: "b", Cpu: api.Cpu{Name: "c"}, Chips: make([]api.Chip, 1000000)}, {Name: "b", Cpu: api.Cpu{Name: "c"}, Wires: make([]api.Wire, 1000000)}} {
		if e := board.Check(b); e != api.ErrLarge {
			t.Error("a million:", e)
		}
	}
}

// P15.2: two chips, and a third one between or beside them, at all places near each other.
func TestCheckClash(t *testing.T) {
	const places = 6
	for code := range places * places * places * places {
		one := api.Chip{Name: "one", Kind: api.Ram, Base: code % places, Size: code/places%places + 1}
		two := api.Chip{Name: "two", Kind: api.Ram, Base: code / places / places % places, Size: code/places/places/places + 1}
		want := api.OK
		for addr := range 2 * places {
			if addr >= one.Base && addr < one.Base+one.Size && addr >= two.Base && addr < two.Base+two.Size {
				want = api.ErrClash
			}
		}
		far := api.Chip{Name: "far", Kind: api.Rom, Base: 65535, Size: 1}
		for _, l := range [][]api.Chip{{one, two}, {two, one}, {one, far, two}, {far, two, one}} {
			if e := board.Check(api.Board{Name: "b", Cpu: api.Cpu{Name: "c"}, Chips: l}); e != want {
				t.Fatalf("%v: %v, not %v", l, e, want)
			}
		}
	}
}

// P15.2: all addresses have a chip, up to the last one.
func TestCheckFullOfChips(t *testing.T) {
	b := api.Board{Name: "b", Cpu: api.Cpu{Name: "c"}}
	for n := range 12 {
		b.Chips = append(b.Chips, api.Chip{Name: fmt.Sprintf("m%d", n), Kind: n % 3, Base: 65536 - 4096*(n+1), Size: 4096})
	}
	if e := board.Check(b); e != api.OK {
		t.Error(e)
	}
	b.Chips[7].Base++
	if e := board.Check(b); e != api.ErrClash {
		t.Error(e)
	}
}

// P15.2: what wires can lead from.
func TestCheckFrom(t *testing.T) {
	for from, want := range map[string]api.Errno{
		"line.irq": api.OK, "clock.irq": api.OK, "disks.irq": api.OK,
		"ram.irq": api.ErrType, "rom.irq": api.ErrType, "lamps.irq": api.ErrType,
		"clock": api.ErrType, "clock.": api.ErrType, "clock.nmi": api.ErrType, "clock.out": api.ErrType, "clock.ir": api.ErrType, "clock.irqs": api.ErrType, "clock.IRQ": api.ErrType,
		"clock..irq": api.ErrType, "clock.irq.": api.ErrType, "clock.irq.irq": api.ErrType, "clock.line.irq": api.ErrType, "clock.irq ": api.ErrType, "clock. irq": api.ErrType, "ram": api.ErrType, "ram.": api.ErrType,
		"": api.ErrNone, ".": api.ErrNone, ".irq": api.ErrNone, "irq": api.ErrNone, "x": api.ErrNone, "x.irq": api.ErrNone, "cpu": api.ErrNone, "cpu.irq": api.ErrNone, "board-1.irq": api.ErrNone,
		"cloc.irq": api.ErrNone, "clocks.irq": api.ErrNone, "Clock.irq": api.ErrNone, " clock.irq": api.ErrNone, "clock .irq": api.ErrNone, "clock,irq": api.ErrNone, ".clock.irq": api.ErrNone, "clockirq": api.ErrNone,
		strings.Repeat("clock.", 1000): api.ErrType, strings.Repeat("clock", 1000): api.ErrNone,
	} {
		b := sample()
		b.Wires = []api.Wire{{From: from, To: "cpu.irq"}}
		if e := board.Check(b); e != want {
			t.Errorf("%q: %v, not %v", from, e, want)
		}
		// It is looked for before where the wire leads.
		b.Wires[0].To = "x"
		if want == api.OK {
			want = api.ErrBan
		}
		if e := board.Check(b); e != want {
			t.Errorf("%q to x: %v, not %v", from, e, want)
		}
	}
	b := sample()
	b.Chips, b.Wires = nil, b.Wires[:1]
	if e := board.Check(b); e != api.ErrNone {
		t.Error("a wire without chips:", e)
	}
}

// P15.2: wires from chips of all kinds.
func TestCheckFromKinds(t *testing.T) {
	sizes := []int{1, 1, 2, 4, 2, 3, 32, 8, 4}
	for kind, size := range sizes {
		b := api.Board{Name: "b", Cpu: api.Cpu{Name: "c"}, Chips: []api.Chip{{Name: "x", Kind: kind, Size: size}}, Wires: []api.Wire{{From: "x.irq", To: "cpu.irq"}}}
		want := api.ErrType
		if kind == 3 || kind == 5 || kind == 8 {
			want = api.OK
		}
		if e := board.Check(b); e != want {
			t.Errorf("kind %d: %v, not %v", kind, e, want)
		}
	}
}

// P15.2: what wires can lead to.
func TestCheckTo(t *testing.T) {
	for _, to := range []string{"", ".", "cpu", "cpu.", ".irq", "irq", "cpu.nmi", "cpu.res", "cpu.IRQ", "CPU.irq", "cpu.irq.", "cpu..irq", "cpu.irqs", " cpu.irq", "cpu.irq ", "cpu irq", "clock.irq", "line.irq", "std.irq", "board-1.irq"} {
		b := sample()
		if b.Wires[1].To = to; board.Check(b) != api.ErrBan {
			t.Errorf("%q: %v", to, board.Check(b))
		}
	}
}

// P15.2: a wire may not come back, also behind others.
func TestCheckWiresAgain(t *testing.T) {
	r := rand.New(rand.NewSource(152))
	for range 500 {
		b := timers(6)
		var l []api.Wire
		want := api.OK
		for range r.Intn(6) {
			w := b.Wires[r.Intn(6)]
			if slices.Contains(l, w) {
				want = api.ErrThere
			}
			l = append(l, w)
		}
		if b.Wires = l; board.Check(b) != want {
			t.Errorf("%v: %v, not %v", l, board.Check(b), want)
		}
	}
}

// Z1: boards whose numbers are far beyond every limit.
func TestCheckWild(t *testing.T) {
	far := []int{math.MinInt, math.MinInt + 1, -65537, -1, 0, 1, 65535, 65536, math.MaxInt - 1, math.MaxInt}
	for _, base := range far {
		for _, size := range far {
			b := sample()
			b.Chips[0].Base, b.Chips[0].Size = base, size
			want := api.OK
			switch {
			case size < 1:
				want = api.ErrArg
			case size > 4096:
				want = api.ErrLarge
			case base < 0 || base > 65535:
				want = api.ErrFar
			case size == 1:
				want = api.ErrForm
			}
			if e := board.Check(b); e != want {
				t.Errorf("base %d, size %d: %v, not %v", base, size, e, want)
			}
		}
	}
}
