package board_test

import (
	"math"
	"reflect"
	"slices"
	"strings"
	"testing"

	"bakelite/api"
	"bakelite/board"
)

// P15.1
func TestAsks(t *testing.T) {
	for kind, want := range map[int]bool{
		api.Ram: false, api.Rom: false, api.Bank: false, api.Timer: true, api.Port: false, api.Serial: true, api.Video: false, api.Sound: false, api.Drive: true,
		-1: false, -3: false, 9: false, 256 + api.Timer: false, math.MinInt: false, math.MaxInt: false,
	} {
		if board.Asks(kind) != want {
			t.Errorf("kind %d: %v", kind, board.Asks(kind))
		}
	}
}

// wired is a board with chips of all kinds, each named by a letter, and wires.
func wired(l ...api.Wire) api.Board {
	b := api.Board{Wires: l}
	for kind := range api.NumKinds {
		b.Chips = append(b.Chips, api.Chip{Name: string(rune('a' + kind)), Kind: kind})
	}
	return b
}

// P15.4: the chips d, f and i ask for interrupts.
func TestLooseAndHeard(t *testing.T) {
	d, f, i := api.Wire{From: "d.irq", To: "cpu.irq"}, api.Wire{From: "f.irq", To: "cpu.irq"}, api.Wire{From: "i.irq", To: "cpu.irq"}
	for n, x := range []struct {
		b     api.Board
		loose string
		heard string
	}{
		{wired(), "d.irq f.irq i.irq", ""},
		{wired(d), "f.irq i.irq", "d"}, {wired(f), "d.irq i.irq", "f"}, {wired(i), "d.irq f.irq", "i"},
		{wired(d, f), "i.irq", "df"}, {wired(i, d), "f.irq", "di"}, {wired(i, f), "d.irq", "fi"}, {wired(i, f, d), "", "dfi"},
		// not valid: wires that come back, that lead elsewhere, or from elsewhere
		{wired(d, d), "f.irq i.irq", "d"},
		{wired(api.Wire{From: "d.irq", To: "cpu.nmi"}), "f.irq i.irq", ""},
		{wired(api.Wire{From: "d.irq", To: "cpu.nmi"}, d), "f.irq i.irq", "d"},
		{wired(d, api.Wire{From: "d.irq"}, api.Wire{From: "f.irq", To: "d.irq"}), "i.irq", "d"},
		{wired(api.Wire{From: "cpu.irq", To: "d.irq"}, api.Wire{To: "d.irq"}), "d.irq f.irq i.irq", ""},
		{wired(api.Wire{From: "a.irq", To: "cpu.irq"}, api.Wire{From: "e.irq", To: "cpu.irq"}), "d.irq f.irq i.irq", ""},
		{wired(api.Wire{From: "d", To: "cpu.irq"}, api.Wire{From: "f.out", To: "cpu.irq"}, api.Wire{From: "i.irq.irq", To: "cpu.irq"}), "d.irq f.irq i.irq", ""},
		{wired(api.Wire{From: "d.irq", To: "cpu"}, api.Wire{From: "f.irq", To: "CPU.irq"}, api.Wire{From: "i.irq", To: "cpu.irq "}), "", ""},
	} {
		if l := board.Loose(x.b); strings.Join(l, " ") != x.loose {
			t.Errorf("board %d: loose %v, not %v", n, l, x.loose)
		}
		heard := make([]bool, api.NumKinds)
		for _, name := range x.heard {
			heard[name-'a'] = true
		}
		if l := board.Heard(x.b); !slices.Equal(l, heard) {
			t.Errorf("board %d: heard %v, not %v", n, l, heard)
		}
	}
}

// P15.4: the order is that of the chips, and several may have one name where the board is not valid.
func TestLooseOrder(t *testing.T) {
	b := sample()
	b.Wires = nil
	if l := board.Loose(b); !slices.Equal(l, []string{"clock.irq", "line.irq", "disks.irq"}) {
		t.Error(l)
	}
	if l := board.Heard(b); !slices.Equal(l, make([]bool, 6)) {
		t.Error(l)
	}
	slices.Reverse(b.Chips)
	if l := board.Loose(b); !slices.Equal(l, []string{"disks.irq", "line.irq", "clock.irq"}) {
		t.Error(l)
	}
	b = api.Board{Chips: []api.Chip{{Kind: api.Drive}, {Name: "x", Kind: api.Timer}, {Name: "x", Kind: api.Ram}, {Name: "x", Kind: api.Serial}, {Name: "A.b", Kind: api.Timer}}}
	if l := board.Loose(b); !slices.Equal(l, []string{".irq", "x.irq", "x.irq", "A.b.irq"}) {
		t.Error(l)
	}
	b.Wires = []api.Wire{{From: "x.irq", To: "cpu.irq"}}
	if l := board.Loose(b); !slices.Equal(l, []string{".irq", "A.b.irq"}) {
		t.Error(l)
	}
	if l := board.Heard(b); !slices.Equal(l, []bool{false, true, false, true, false}) {
		t.Error(l)
	}
}

// Z1: boards with very many chips and wires.
func TestManyChipsAndWires(t *testing.T) {
	b := timers(40000)
	if l := board.Loose(b); len(l) != 0 {
		t.Error(len(l))
	}
	if l := board.Heard(b); len(l) != 40000 || slices.Contains(l, false) {
		t.Error(len(l))
	}
	if n, at, ok := board.Find(b, 159999); n != 39999 || at != 3 || !ok {
		t.Error(n, at, ok)
	}
	if l := board.Map(b); len(l) != 16384 || l[16383] != (board.Range{From: 65532, To: 65536, Chip: 16383}) {
		t.Error(len(l))
	}
	if !board.Same(board.Copy(b), b) {
		t.Error("Copy, Same")
	}
}

// P15.6
func TestCopy(t *testing.T) {
	wild := api.Board{Name: "No Name", Cpu: api.Cpu{Name: ".", Instrs: []api.Instr{{Op: math.MinInt, Mode: 99}}}, Chips: []api.Chip{{Name: "-", Kind: -1, Base: math.MaxInt, Size: math.MinInt, Data: []byte{7}}, {}}, Wires: []api.Wire{{}, {From: "x", To: "y"}}}
	for _, b := range []api.Board{sample(), timers(12), wild, {}} {
		if c := board.Copy(b); !reflect.DeepEqual(c, b) {
			t.Errorf("%v, not %v", c, b)
		}
	}
}

// parts calls f with every number, byte, text and list in a value, also behind the ends of the lists if all is true.
func parts(v reflect.Value, all bool, f func(reflect.Value)) {
	switch v.Kind() {
	case reflect.Struct:
		for i := range v.NumField() {
			parts(v.Field(i), all, f)
		}
	case reflect.Slice:
		l := v
		if all {
			l = v.Slice(0, v.Cap())
		}
		for i := range l.Len() {
			parts(l.Index(i), all, f)
		}
		f(v)
	default:
		f(v)
	}
}

// change makes a number, a byte, a text or a list another one.
func change(v reflect.Value) {
	switch v.Kind() {
	case reflect.Int:
		v.SetInt(v.Int() + 1)
	case reflect.Uint8:
		v.SetUint(v.Uint() + 1)
	case reflect.String:
		v.SetString(v.String() + "x")
	case reflect.Slice:
		v.Set(reflect.Append(v, reflect.Zero(v.Type().Elem())))
	}
}

// P15.6: a change of any number, byte, text or length is seen.
func TestSame(t *testing.T) {
	a, b := sample(), sample()
	if !board.Same(a, b) || !board.Same(a, a) || !board.Same(api.Board{}, api.Board{}) {
		t.Error("equal boards")
	}
	many := 0
	parts(reflect.ValueOf(&b).Elem(), false, func(v reflect.Value) {
		was := reflect.New(v.Type()).Elem()
		was.Set(v)
		change(v)
		if board.Same(a, b) || board.Same(b, a) || !board.Same(b, b) {
			t.Errorf("the same: %v, %v", a, b)
		}
		if v.Kind() == reflect.Slice && was.Len() > 0 {
			v.Set(was.Slice(0, was.Len()-1))
			if board.Same(a, b) || board.Same(b, a) {
				t.Errorf("the same: %v, %v", a, b)
			}
		}
		v.Set(was)
		many++
	})
	if many < 500 || !board.Same(a, b) {
		t.Error(many)
	}
}

// P15.6: the order counts.
func TestSameOrder(t *testing.T) {
	for n, turn := range []func(b *api.Board){
		func(b *api.Board) { slices.Reverse(b.Chips) },
		func(b *api.Board) { slices.Reverse(b.Wires) },
		func(b *api.Board) { slices.Reverse(b.Chips[0].Data) },
		func(b *api.Board) { slices.Reverse(b.Cpu.Instrs) },
		func(b *api.Board) { b.Chips[0].Data, b.Chips[5].Data = b.Chips[5].Data, b.Chips[0].Data },
		func(b *api.Board) { b.Wires[0].From, b.Wires[0].To = b.Wires[0].To, b.Wires[0].From },
	} {
		b := sample()
		turn(&b)
		if board.Same(sample(), b) || board.Same(b, sample()) {
			t.Errorf("turn %d", n)
		}
	}
}

// roomy puts zeros behind the end of every list in a value.
func roomy(v reflect.Value) {
	parts(v, false, func(v reflect.Value) {
		if v.Kind() == reflect.Slice {
			l := reflect.MakeSlice(v.Type(), v.Len(), v.Len()+2)
			reflect.Copy(l, v)
			v.Set(l)
		}
	})
}

// told returns every number, byte and text of a board in order, and the lengths of its lists; if all is true, also what is behind their ends.
func told(b api.Board, all bool) []any {
	var l []any
	parts(reflect.ValueOf(&b).Elem(), all, func(v reflect.Value) {
		if v.Kind() == reflect.Slice {
			l = append(l, v.Len())
		} else {
			l = append(l, v.Interface())
		}
	})
	return l
}

// equal reports whether two boards are equal, where lists may be empty or nil.
func equal(a, b api.Board) bool {
	return slices.Equal(told(a, false), told(b, false))
}

// spoil changes everything in a board, and behind the ends of its lists.
func spoil(b api.Board) {
	parts(reflect.ValueOf(&b).Elem(), true, func(v reflect.Value) {
		if v.Kind() != reflect.Slice {
			change(v)
		}
	})
}

// Z2: the arguments stay as they are, with the memory behind their lengths, and earlier calls change no result.
func TestArgumentsStay(t *testing.T) {
	b := sample()
	roomy(reflect.ValueOf(&b).Elem())
	was := told(b, true)
	ranges, loose, heard, copied := board.Map(b), board.Loose(b), board.Heard(b), board.Copy(b)
	for range 3 {
		if board.Check(b) != api.OK || !board.Same(b, sample()) || !board.Same(sample(), b) {
			t.Fatal("Check, Same")
		}
		if n, at, ok := board.Find(b, 2001); n != 1 || at != 1 || !ok {
			t.Fatal("Find")
		}
		again := board.Copy(b)
		if !equal(again, sample()) || !slices.Equal(board.Map(b), ranges) || !slices.Equal(board.Loose(b), loose) || !slices.Equal(board.Heard(b), heard) {
			t.Fatal("Copy, Map, Loose, Heard")
		}
		spoil(again)
		clear(board.Map(b))
		clear(board.Loose(b))
		clear(board.Heard(b))
		if !slices.Equal(told(b, true), was) || !equal(copied, sample()) {
			t.Fatal("changed")
		}
	}
	// A change of the argument changes no copy.
	spoil(b)
	if !equal(copied, sample()) {
		t.Error(copied)
	}
}

// Z2: the lists of a copy share no memory, also where those of the argument do.
func TestListsOfCopyAreApart(t *testing.T) {
	data, steps := make([]byte, 3, 9), make([]api.Step, 2, 9)
	cycles := []api.Cycle{{Steps: steps}, {Steps: steps[:1]}}
	b := api.Board{
		Cpu:   api.Cpu{Instrs: []api.Instr{{Cycles: cycles}, {Cycles: cycles}}, Res: cycles, Irq: cycles, Nmi: cycles[:1]},
		Chips: []api.Chip{{Data: data}, {Data: data[:2]}, {Data: data[:0]}, {Data: data}},
	}
	c := board.Copy(b)
	// Each part is changed once, also if it is reached twice.
	spoil(c)
	for n, x := range c.Chips {
		if len(x.Data) != len(b.Chips[n].Data) || slices.ContainsFunc(x.Data, func(n byte) bool { return n != 1 }) {
			t.Error(c.Chips)
		}
	}
	lists := [][]api.Cycle{c.Cpu.Instrs[0].Cycles, c.Cpu.Instrs[1].Cycles, c.Cpu.Res, c.Cpu.Irq, c.Cpu.Nmi}
	for _, l := range lists {
		for _, x := range l {
			if x.Reg != 1 || slices.ContainsFunc(x.Steps, func(s api.Step) bool { return s != api.Step{Do: 1, To: 1, From: 1, N: 1} }) {
				t.Error(c.Cpu)
			}
		}
	}
	if !slices.Equal(data[:9], make([]byte, 9)) || !slices.Equal(steps[:9], make([]api.Step, 9)) {
		t.Error(data[:9], steps[:9])
	}
}

// Z4
func TestEmptyAndNil(t *testing.T) {
	nils := api.Board{Name: "b", Cpu: api.Cpu{Name: "c"}, Chips: []api.Chip{{Name: "x", Kind: api.Timer, Size: 4}}}
	empties := api.Board{Name: "b", Cpu: api.Cpu{Name: "c", Instrs: []api.Instr{}, Res: []api.Cycle{}, Irq: []api.Cycle{}, Nmi: []api.Cycle{}}, Chips: []api.Chip{{Name: "x", Kind: api.Timer, Size: 4, Data: []byte{}}}, Wires: []api.Wire{}}
	if !board.Same(nils, empties) || !board.Same(empties, nils) || !board.Same(board.Copy(nils), empties) || !board.Same(nils, board.Copy(empties)) {
		t.Error("Same, Copy")
	}
	if !board.Same(api.Board{}, api.Board{Chips: []api.Chip{}}) || !board.Same(api.Board{Chips: []api.Chip{}, Wires: []api.Wire{}}, api.Board{}) {
		t.Error("Same without chips")
	}
	for _, b := range []api.Board{nils, empties} {
		if e := board.Check(b); e != api.OK {
			t.Error(e)
		}
		if l := board.Loose(b); !slices.Equal(l, []string{"x.irq"}) {
			t.Error(l)
		}
		if l := board.Heard(b); !slices.Equal(l, []bool{false}) {
			t.Error(l)
		}
	}
	for _, b := range []api.Board{{}, {Chips: []api.Chip{}, Wires: []api.Wire{}}} {
		if len(board.Loose(b)) != 0 || len(board.Heard(b)) != 0 {
			t.Error("Loose and Heard without chips")
		}
	}
}
