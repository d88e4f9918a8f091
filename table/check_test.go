package table_test

import (
	"math"
	"slices"
	"strconv"
	"strings"
	"testing"

	"bakelite/api"
	"bakelite/table"
)

// fault makes a processor one that Check returns an error for.
type fault struct {
	what string
	turn func(c *api.Cpu)
	want api.Errno
}

// faults returns faults of the sample, in the order in which Check looks for them.
func faults() []fault {
	all := []fault{
		{"no name", func(c *api.Cpu) { c.Name = "" }, api.ErrName},
		{"257 instructions", func(c *api.Cpu) { c.Instrs = append(c.Instrs, make([]api.Instr, 255)...) }, api.ErrLarge},
	}
	for n := range sample().Instrs {
		all = append(all, faultsOfInstr(n)...)
	}
	for _, list := range []func(c *api.Cpu) *[]api.Cycle{
		func(c *api.Cpu) *[]api.Cycle { return &c.Res }, func(c *api.Cpu) *[]api.Cycle { return &c.Irq }, func(c *api.Cpu) *[]api.Cycle { return &c.Nmi },
	} {
		all = append(all, faultsOfCycles(list)...)
	}
	return all
}

func faultsOfInstr(n int) []fault {
	x := func(c *api.Cpu) *api.Instr { return &c.Instrs[n] }
	all := []fault{
		{"Op -1", func(c *api.Cpu) { x(c).Op = -1 }, api.ErrArg},
		{"Op 256", func(c *api.Cpu) { x(c).Op = 256 }, api.ErrArg},
	}
	if n > 0 {
		all = append(all,
			fault{"Op as before", func(c *api.Cpu) { c.Instrs[n-1].Op, x(c).Op = 3, 3 }, api.ErrOrder},
			fault{"Op smaller", func(c *api.Cpu) { c.Instrs[n-1].Op, x(c).Op = 3, 2 }, api.ErrOrder})
	}
	all = append(all,
		fault{"name", func(c *api.Cpu) { x(c).Name = "B" }, api.ErrName},
		fault{"mode 9", func(c *api.Cpu) { x(c).Mode = 9 }, api.ErrType},
		fault{"mode -1", func(c *api.Cpu) { x(c).Mode = -1 }, api.ErrType})
	if n > 0 {
		all = append(all, fault{"name and mode as before", func(c *api.Cpu) {
			c.Instrs[n-1].Name, c.Instrs[n-1].Mode, x(c).Name, x(c).Mode = "same", api.MImm, "same", api.MImm
		}, api.ErrThere})
	}
	all = append(all, faultsOfCycles(func(c *api.Cpu) *[]api.Cycle { return &x(c).Cycles })...)
	return append(all, fault{"operand", func(c *api.Cpu) { x(c).Mode = api.MNone }, api.ErrForm})
}

func faultsOfCycles(list func(c *api.Cpu) *[]api.Cycle) []fault {
	all := []fault{{"9 cycles", func(c *api.Cpu) { *list(c) = append(*list(c), make([]api.Cycle, 9-len(*list(c)))...) }, api.ErrLarge}}
	here := sample()
	for n, cycle := range *list(&here) {
		at := func(c *api.Cpu) *api.Cycle { return &(*list(c))[n] }
		all = append(all,
			fault{"bus 3", func(c *api.Cpu) { at(c).Bus = 3 }, api.ErrType},
			fault{"bus -1", func(c *api.Cpu) { at(c).Bus = -1 }, api.ErrType},
			fault{"At without bus", func(c *api.Cpu) { at(c).Bus, at(c).At = 0, 1 }, api.ErrForm},
			fault{"Reg without bus", func(c *api.Cpu) { at(c).Bus, at(c).Reg = 0, 1 }, api.ErrForm},
			fault{"At 12", func(c *api.Cpu) { at(c).Bus, at(c).At = api.BWrite, 12 }, api.ErrArg},
			fault{"Reg PC", func(c *api.Cpu) { at(c).Bus, at(c).Reg = api.BRead, api.RPC }, api.ErrArg},
			fault{"7 steps", func(c *api.Cpu) { at(c).Steps = append(at(c).Steps, make([]api.Step, 7-len(at(c).Steps))...) }, api.ErrLarge})
		for m := range cycle.Steps {
			all = append(all,
				fault{"Do 25", func(c *api.Cpu) { at(c).Steps[m].Do = 25 }, api.ErrType},
				fault{"fields", func(c *api.Cpu) { at(c).Steps[m] = api.Step{Do: api.SNop, N: 1} }, api.ErrArg})
		}
	}
	return all
}

// P3.2 and P3.3
func TestOneFault(t *testing.T) {
	if e := table.Check(sample()); e != api.OK {
		t.Fatal(e)
	}
	for _, f := range faults() {
		c := sample()
		f.turn(&c)
		if e := table.Check(c); e != f.want {
			t.Errorf("%s: %v, not %v", f.what, e, f.want)
		}
	}
}

// P3.2 and P3.3: of two faults the one is told that is looked for first. It is made last, as both may change the same field.
func TestTwoFaults(t *testing.T) {
	all := faults()
	for n, first := range all {
		for _, second := range all[n+1:] {
			c := sample()
			second.turn(&c)
			first.turn(&c)
			if e := table.Check(c); e != first.want {
				t.Errorf("%s, then %s: %v, not %v", first.what, second.what, e, first.want)
			}
		}
	}
}

// P3.2
func TestCheckName(t *testing.T) {
	for _, name := range []string{"a", "std", "z80-b", strings.Repeat("a", 20), "", "A", "1", "-a", "a_", "é", strings.Repeat("a", 21)} {
		want := api.OK
		if !table.Name(name) {
			want = api.ErrName
		}
		if e := table.Check(api.Cpu{Name: name}); e != want {
			t.Errorf("processor %q: %v, not %v", name, e, want)
		}
		if e := table.Check(api.Cpu{Name: "c", Instrs: []api.Instr{{Name: name}}}); e != want {
			t.Errorf("instruction %q: %v, not %v", name, e, want)
		}
	}
}

// full returns a processor with instructions of these bytes, all of different names.
func full(ops ...int) api.Cpu {
	c := api.Cpu{Name: "full"}
	for n, op := range ops {
		c.Instrs = append(c.Instrs, api.Instr{Op: op, Name: "n" + strconv.Itoa(n)})
	}
	return c
}

// P3.2
func TestCheckBytes(t *testing.T) {
	for _, c := range []struct {
		ops  []int
		want api.Errno
	}{
		{[]int{0}, api.OK}, {[]int{255}, api.OK}, {[]int{-1}, api.ErrArg}, {[]int{256}, api.ErrArg}, {[]int{math.MinInt}, api.ErrArg}, {[]int{math.MaxInt}, api.ErrArg},
		{[]int{0, 1, 254, 255}, api.OK}, {[]int{0, 0}, api.ErrOrder}, {[]int{255, 255}, api.ErrOrder}, {[]int{1, 0}, api.ErrOrder}, {[]int{1, 5, 3}, api.ErrOrder}, {[]int{1, 5, 1}, api.ErrOrder},
		{[]int{4, -1}, api.ErrArg}, {[]int{4, 256}, api.ErrArg}, {[]int{4, 3, 256}, api.ErrOrder}, {[]int{4, 256, 3}, api.ErrArg},
	} {
		if e := table.Check(full(c.ops...)); e != c.want {
			t.Errorf("bytes %v: %v, not %v", c.ops, e, c.want)
		}
	}
}

// P3.2
func TestCheckManyInstrs(t *testing.T) {
	var ops []int
	for op := range api.MaxInstrs {
		ops = append(ops, op)
	}
	c := full(ops...)
	if e := table.Check(c); e != api.OK {
		t.Error(e)
	}
	c.Instrs = append(c.Instrs, api.Instr{Op: 255, Name: "more"})
	if e := table.Check(c); e != api.ErrLarge {
		t.Error(e)
	}
	// An instruction that is wrong behind the limit, or before it, changes nothing.
	c.Instrs[0].Op, c.Instrs[256].Op = -1, 256
	if e := table.Check(c); e != api.ErrLarge {
		t.Error(e)
	}
}

// P3.2: a name may stand for several modes, and a mode for several names, but a pair may not come back, also behind others.
func TestCheckNamesAndModes(t *testing.T) {
	none := func(op int, name string) api.Instr { return api.Instr{Op: op, Name: name} }
	byteOperand := func(op int, name string, mode int) api.Instr {
		return api.Instr{Op: op, Name: name, Mode: mode, Cycles: []api.Cycle{{Bus: api.BRead, Reg: api.RT}}}
	}
	for n, c := range []struct {
		l    []api.Instr
		want api.Errno
	}{
		{[]api.Instr{none(0, "a"), byteOperand(1, "a", api.MImm), byteOperand(2, "a", api.MZero), none(3, "b"), byteOperand(4, "b", api.MImm)}, api.OK},
		{[]api.Instr{none(0, "a"), none(1, "a")}, api.ErrThere},
		{[]api.Instr{none(0, "a"), none(1, "b"), none(2, "a")}, api.ErrThere},
		{[]api.Instr{byteOperand(0, "a", api.MRel), none(1, "a"), none(2, "b"), byteOperand(3, "a", api.MRel)}, api.ErrThere},
		{[]api.Instr{byteOperand(0, "a", api.MRel), byteOperand(1, "a", api.MInd)}, api.OK},
		{[]api.Instr{none(0, "a"), none(1, "aa"), none(2, "a-")}, api.OK},
	} {
		if e := table.Check(api.Cpu{Name: "c", Instrs: c.l}); e != c.want {
			t.Errorf("list %d: %v, not %v", n, e, c.want)
		}
	}
}

// P3.2: only readings at PC count, as many as the operand of the mode has bytes.
func TestCheckOperand(t *testing.T) {
	others := []api.Cycle{{Bus: api.BWrite, At: api.AtPC}, {Bus: api.BRead, At: api.AtHere}, {}, {Bus: api.BRead, At: api.AtAD}}
	for mode := range api.NumModes {
		for reads := range 4 {
			for _, behind := range [][]api.Cycle{nil, others} {
				cycles := slices.Repeat([]api.Cycle{{Bus: api.BRead, At: api.AtPC, Reg: api.RU}}, reads)
				x := api.Instr{Name: "a", Mode: mode, Cycles: append(cycles, behind...)}
				want := api.ErrForm
				if reads == table.Size(mode) {
					want = api.OK
				}
				if e := table.Check(api.Cpu{Name: "c", Instrs: []api.Instr{x}}); e != want {
					t.Errorf("mode %d, %d readings: %v, not %v", mode, reads, e, want)
				}
			}
		}
	}
	// The answers to a reset and to interrupts have no mode.
	cycles := slices.Repeat([]api.Cycle{{Bus: api.BRead, At: api.AtPC}}, 8)
	if e := table.Check(api.Cpu{Name: "c", Res: cycles, Irq: cycles[:3], Nmi: cycles[:1]}); e != api.OK {
		t.Error(e)
	}
}

// checkWith returns the error of a processor that has these cycles as one of its answers, or in an instruction.
func checkWith(t *testing.T, cycles ...api.Cycle) api.Errno {
	t.Helper()
	e := table.Check(api.Cpu{Name: "c", Res: cycles})
	irq, nmi := table.Check(api.Cpu{Name: "c", Irq: cycles}), table.Check(api.Cpu{Name: "c", Nmi: cycles})
	if irq != e || nmi != e {
		t.Errorf("%v: %v as Res, %v as Irq, %v as Nmi", cycles, e, irq, nmi)
	}
	return e
}

// P3.3
func TestCheckCycle(t *testing.T) {
	around := []int{-1, 0, 1, 2, 3, 4, 5, 6, 7, 8, 9, 10, 11, 12, 13, 256, math.MinInt, math.MaxInt}
	for _, bus := range around {
		for _, at := range around {
			for _, reg := range around {
				want := api.OK
				switch {
				case bus < 0 || bus > 2:
					want = api.ErrType
				case bus == 0 && (at != 0 || reg != 0):
					want = api.ErrForm
				case at < 0 || at > 11 || reg < 0 || reg > 6:
					want = api.ErrArg
				}
				if e := checkWith(t, api.Cycle{Bus: bus, At: at, Reg: reg}); e != want {
					t.Errorf("bus %d, At %d, Reg %d: %v, not %v", bus, at, reg, e, want)
				}
			}
		}
	}
}

// P3.3
func TestCheckManyCyclesAndSteps(t *testing.T) {
	for many := range 12 {
		want := api.OK
		if many > api.MaxCycles {
			want = api.ErrLarge
		}
		if e := checkWith(t, make([]api.Cycle, many)...); e != want {
			t.Errorf("%d cycles: %v, not %v", many, e, want)
		}
		want = api.OK
		if many > api.MaxSteps {
			want = api.ErrLarge
		}
		if e := checkWith(t, api.Cycle{Steps: make([]api.Step, many)}); e != want {
			t.Errorf("%d steps: %v, not %v", many, e, want)
		}
	}
}

// kinds says what the fields of each step must be, as the document's table does: 0, a register (r), one of 8 bits (n) or 16 bits (w), one as wide as To (=), 0 or 1 (b), or a number up to 255 (B), or to 65535 if To is wide (W).
var kinds = map[int]string{
	api.SNop: "000", api.SMove: "r=0", api.SLit: "r0W", api.SNZ: "n00", api.SShl: "n00", api.SShr: "n00", api.SRol: "n00", api.SRor: "n00", api.SInc: "r00", api.SDec: "r00",
	api.SAdd: "nn0", api.SSub: "nn0", api.SCmp: "nn0", api.SAnd: "nn0", api.SOr: "nn0", api.SXor: "nn0", api.SSet: "00B", api.SClr: "00B",
	api.SLow: "wn0", api.SHigh: "wn0", api.SIndex: "wn0", api.SRel: "wn0", api.SGetLow: "nw0", api.SGetHigh: "nw0", api.SIf: "0bB",
}

// meets tells whether a field of a step is what a letter says.
func meets(letter byte, n int, s api.Step) bool {
	narrow, wide := n >= 0 && n < 7, n == 7 || n == 8
	switch letter {
	case 'r':
		return narrow || wide
	case 'n':
		return narrow
	case 'w':
		return wide
	case '=':
		return (narrow || wide) && wide == (s.To == 7 || s.To == 8)
	case 'b':
		return n == 0 || n == 1
	case 'B':
		return n >= 0 && n < 256
	case 'W':
		return n >= 0 && (n < 256 || n < 65536 && (s.To == 7 || s.To == 8))
	}
	return n == 0
}

// P3.3: every kind of step, with all registers and numbers on both sides of the limits.
func TestCheckStep(t *testing.T) {
	if len(kinds) != api.NumSteps {
		t.Fatal(len(kinds))
	}
	registers := []int{-1, 0, 1, 2, 3, 4, 5, 6, 7, 8, 9, 263, math.MinInt, math.MaxInt}
	for do := range api.NumSteps {
		for _, to := range registers {
			for _, from := range registers {
				for _, n := range []int{-65536, -1, 0, 1, 2, 255, 256, 65535, 65536, math.MinInt, math.MaxInt} {
					s := api.Step{Do: do, To: to, From: from, N: n}
					want := api.ErrArg
					if kind := kinds[do]; meets(kind[0], to, s) && meets(kind[1], from, s) && meets(kind[2], n, s) {
						want = api.OK
					}
					if e := table.Check(api.Cpu{Name: "c", Res: []api.Cycle{{Steps: []api.Step{s}}}}); e != want {
						t.Errorf("%+v: %v, not %v", s, e, want)
					}
				}
			}
		}
	}
	for _, do := range []int{-1, 25, 26, 256, math.MinInt, math.MaxInt} {
		for _, n := range []int{0, -1} {
			if e := checkWith(t, api.Cycle{Steps: []api.Step{{Do: do, To: n}}}); e != api.ErrType {
				t.Errorf("Do %d: %v", do, e)
			}
		}
	}
}

// P3.3: the last one of the permitted cycles and steps is looked at too.
func TestCheckLast(t *testing.T) {
	cycles := make([]api.Cycle, api.MaxCycles)
	cycles[7].Steps = make([]api.Step, api.MaxSteps)
	if e := checkWith(t, cycles...); e != api.OK {
		t.Error(e)
	}
	cycles[7].Steps[5].Do = -1
	if e := checkWith(t, cycles...); e != api.ErrType {
		t.Error(e)
	}
	cycles[7] = api.Cycle{Bus: 9}
	if e := checkWith(t, cycles...); e != api.ErrType {
		t.Error(e)
	}
}
