package std_test

import (
	"testing"

	"bakelite/api"
	"bakelite/std"
	"bakelite/table"
)

// The processor is valid.
func TestValid(t *testing.T) {
	if code := table.Check(std.Cpu()); code != api.OK {
		t.Errorf("the code %d", code)
	}
}

// P6.1 to P6.4: the whole processor is the one that the document's text tells.
func TestText(t *testing.T) {
	got, want := std.Cpu(), told()
	if got.Name != want.Name || len(got.Instrs) != len(want.Instrs) {
		t.Fatalf("%s with %d instructions, not %s with %d", got.Name, len(got.Instrs), want.Name, len(want.Instrs))
	}
	for at, x := range got.Instrs {
		// Processors with one instruction are compared, as table compares no instructions.
		if !table.Same(api.Cpu{Instrs: []api.Instr{x}}, api.Cpu{Instrs: want.Instrs[at : at+1]}) {
			t.Errorf("%v, not %v", x, want.Instrs[at])
		}
	}
	for _, l := range []struct {
		name      string
		got, want []api.Cycle
	}{{"Res", got.Res, want.Res}, {"Irq", got.Irq, want.Irq}, {"Nmi", got.Nmi, want.Nmi}} {
		if !table.Same(api.Cpu{Res: l.got}, api.Cpu{Res: l.want}) {
			t.Errorf("%s: %v, not %v", l.name, l.got, l.want)
		}
	}
	if !table.Same(got, want) {
		t.Error("the processors differ")
	}
}

// P6.1: first and last bytes of each kind of instructions, counted by hand.
func TestBytes(t *testing.T) {
	c := std.Cpu()
	if len(c.Instrs) != 92 {
		t.Errorf("%d instructions", len(c.Instrs))
	}
	for _, x := range []struct {
		name     string
		mode, op int
	}{
		{"lda", api.MImm, 1}, {"lda", api.MInd, 7}, {"ldy", api.MAbs, 13}, {"sta", api.MZero, 14}, {"sta", api.MInd, 19}, {"sty", api.MAbs, 23},
		{"adc", api.MImm, 24}, {"sbc", api.MImm, 28}, {"and", api.MImm, 32}, {"ora", api.MImm, 36}, {"eor", api.MImm, 40}, {"cmp", api.MImm, 44}, {"cmp", api.MAbsX, 47},
		{"cpx", api.MImm, 48}, {"cpy", api.MZero, 51}, {"inc", api.MZero, 52}, {"dec", api.MAbs, 55}, {"asl", api.MNone, 56}, {"ror", api.MZero, 63},
		{"tax", api.MNone, 64}, {"dey", api.MNone, 73}, {"clc", api.MNone, 74}, {"nop", api.MNone, 78}, {"pha", api.MNone, 79}, {"plp", api.MNone, 82},
		{"jmp", api.MAbs, 83}, {"jsr", api.MAbs, 84}, {"rts", api.MNone, 85}, {"rti", api.MNone, 86}, {"beq", api.MRel, 87}, {"bpl", api.MRel, 92},
	} {
		if y, ok := table.Named(c, x.name, x.mode); !ok || y.Op != x.op {
			t.Errorf("%s with mode %d: %d, not %d", x.name, x.mode, y.Op, x.op)
		}
	}
}

// fill puts numbers of their own into all memory behind the slices of a processor, also spare capacity, and returns the lists of steps and of cycles.
func fill(c api.Cpu) (steps [][]api.Step, cycles [][]api.Cycle) {
	cycles = [][]api.Cycle{c.Res, c.Irq, c.Nmi}
	for _, x := range c.Instrs[:cap(c.Instrs)] {
		cycles = append(cycles, x.Cycles)
	}
	for at, l := range cycles {
		cycles[at] = l[:cap(l)]
		for _, x := range cycles[at] {
			steps = append(steps, x.Steps[:cap(x.Steps)])
		}
	}
	for at, l := range steps {
		for n := range l {
			l[n] = api.Step{N: at}
		}
	}
	for at, l := range cycles {
		for n := range l {
			l[n] = api.Cycle{At: at}
		}
	}
	for at := range c.Instrs[:cap(c.Instrs)] {
		c.Instrs[:cap(c.Instrs)][at] = api.Instr{Name: "filled"}
	}
	return steps, cycles
}

// Z2: slices of a result share no memory with each other, and none with those of another result.
func TestNewMemory(t *testing.T) {
	before := std.Cpu()
	steps, cycles := fill(std.Cpu())
	for at, l := range steps {
		for _, s := range l {
			if s.N != at {
				t.Errorf("the steps %d and %d share memory", at, s.N)
			}
		}
	}
	for at, l := range cycles {
		for _, x := range l {
			if x.At != at {
				t.Errorf("the cycles %d and %d share memory", at, x.At)
			}
		}
	}
	if !table.Same(before, told()) || !table.Same(std.Cpu(), told()) {
		t.Error("results share memory")
	}
}
