package core_test

import (
	"math"
	"slices"
	"testing"

	"bakelite/api"
	"bakelite/core"
	"bakelite/std"
)

// extremes are numbers that stand for no register, no cycle, no byte and no other value of Op.
var extremes = []int{math.MinInt, math.MinInt + 1, -65536, -257, -256, -2, 260, 512, 65536, math.MaxInt - 1, math.MaxInt}

// regs are registers that all differ, and whose low bytes do.
func regs() api.Regs {
	return api.Regs{api.RA: 11, api.RX: 22, api.RY: 33, api.RS: 44, api.RP: 80, api.RT: 66, api.RU: 77, api.RPC: 0x1258, api.RAD: 0x3463}
}

// with returns registers of which one has another number.
func with(r api.Regs, reg, n int) api.Regs {
	r[reg] = n
	return r
}

// only is a processor with one instruction of the byte 7, which has these cycles.
func only(l ...api.Cycle) api.Cpu {
	return api.Cpu{Name: "only", Instrs: []api.Instr{{Op: 7, Name: "seven", Cycles: l}}}
}

// P5.1
func TestNew(t *testing.T) {
	want := api.Core{Op: 258, R: api.Regs{0, 0, 0, 0, 4, 0, 0, 0, 0}}
	if k := core.New(); k != want {
		t.Errorf("New: %v", k)
	}
}

// P5.1: Nmi changes nothing else, not even registers that are too large.
func TestNmi(t *testing.T) {
	for _, k := range []api.Core{
		{}, core.New(), {Op: api.OpIdle, At: 3, R: regs()}, {Op: api.OpJam, At: math.MinInt, Nmi: true},
		{Op: math.MaxInt, At: -1, R: api.Regs{256, -1, 1000, math.MaxInt, math.MinInt, 0, 0, 65536, -1}},
	} {
		want := k
		want.Nmi = true
		if got := core.Nmi(k); got != want {
			t.Errorf("Nmi(%v): %v", k, got)
		}
	}
}

// answering is a processor whose answers to interrupts write the registers X and Y.
func answering(irq, nmi bool) api.Cpu {
	c := only(api.Cycle{})
	if irq {
		c.Irq = []api.Cycle{{Bus: api.BWrite, At: api.AtAD, Reg: api.RX}, {}}
	}
	if nmi {
		c.Nmi = []api.Cycle{{Bus: api.BWrite, At: api.AtHere, Reg: api.RY}, {}}
	}
	return c
}

// P5.2: what begins if the processor is between instructions.
func TestAskBetweenInstructions(t *testing.T) {
	for n := range 1 << 5 {
		line, waits, masked := n&1 > 0, n&2 > 0, n&4 > 0
		irq, nmi := n&8 > 0, n&16 > 0
		k := api.Core{Op: api.OpIdle, At: 5, Nmi: waits, R: regs()}
		if masked {
			k.R[api.RP] |= api.FI
		}
		want, bus := k, api.Bus{Do: api.BRead, Addr: 0x1258}
		switch {
		case waits && nmi:
			want.Nmi, want.Op, want.At = false, api.OpNmi, 0
			bus = api.Bus{Do: api.BWrite, Addr: 0x1258, Data: 33}
		case line && !masked && irq:
			want.Op, want.At = api.OpIrq, 0
			bus = api.Bus{Do: api.BWrite, Addr: 0x3463, Data: 22}
		default:
			want.R[api.RPC] = 0x1259
		}
		if got, b := core.Ask(answering(irq, nmi), k, line); got != want || b != bus {
			t.Errorf("%v, cycles for interrupts: %v, %v, line %v: %v, %v", k, irq, nmi, line, got, b)
		}
	}
}

// P5.2: of the flags only FI counts.
func TestMasked(t *testing.T) {
	for flags := range 256 {
		k := api.Core{Op: api.OpIdle, R: api.Regs{api.RP: flags}}
		want := api.OpIrq
		if flags/4%2 == 1 {
			want = api.OpIdle
		}
		if got, _ := core.Ask(answering(true, true), k, true); got.Op != want {
			t.Errorf("flags %d: %v", flags, got)
		}
	}
}

// P5.2: an instruction is not interrupted, nor is an answer, a reset or a processor that has jammed.
func TestNoInterruptWithinInstructions(t *testing.T) {
	for _, op := range []int{7, 8, api.OpIrq, api.OpNmi, api.OpRes, api.OpJam, -2, 260} {
		for _, at := range []int{0, 1, 9} {
			k := api.Core{Op: op, At: at, Nmi: true, R: regs()}
			if got, _ := core.Ask(answering(true, true), k, true); got != k {
				t.Errorf("%v: %v", k, got)
			}
		}
	}
}

// P5.2: the reading between instructions goes around behind the last address.
func TestAskReadsInstruction(t *testing.T) {
	for _, c := range []struct{ pc, addr, next int }{{0, 0, 1}, {255, 255, 256}, {65534, 65534, 65535}, {65535, 65535, 0}, {65536, 0, 1}, {-1, 65535, 0}} {
		k := api.Core{Op: api.OpIdle, At: -3, R: with(regs(), api.RPC, c.pc)}
		want := api.Core{Op: api.OpIdle, At: -3, R: with(regs(), api.RPC, c.next)}
		if got, b := core.Ask(api.Cpu{}, k, true); got != want || b != (api.Bus{Do: api.BRead, Addr: c.addr}) {
			t.Errorf("PC %d: %v, %v", c.pc, got, b)
		}
	}
}

// place is where a cycle reads or writes: its At, the register that holds a number, the address, and the number in the register then.
type place struct{ at, reg, n, addr, then int }

func places() []place {
	l := []place{
		{api.AtPC, api.RPC, 0, 0, 1}, {api.AtPC, api.RPC, 700, 700, 701}, {api.AtPC, api.RPC, 65535, 65535, 0}, {api.AtPC, api.RPC, 255, 255, 256},
		{api.AtHere, api.RPC, 0, 0, 0}, {api.AtHere, api.RPC, 65535, 65535, 65535}, {api.AtHere, api.RPC, 700, 700, 700},
		{api.AtAD, api.RAD, 0, 0, 0}, {api.AtAD, api.RAD, 255, 255, 255}, {api.AtAD, api.RAD, 65535, 65535, 65535},
		{api.AtNext, api.RAD, 0, 1, 0}, {api.AtNext, api.RAD, 255, 256, 255}, {api.AtNext, api.RAD, 65534, 65535, 65534}, {api.AtNext, api.RAD, 65535, 0, 65535},
		{api.AtPush, api.RS, 0, 256, 255}, {api.AtPush, api.RS, 1, 257, 0}, {api.AtPush, api.RS, 255, 511, 254}, {api.AtPush, api.RS, 128, 384, 127},
		{api.AtPull, api.RS, 0, 257, 1}, {api.AtPull, api.RS, 254, 511, 255}, {api.AtPull, api.RS, 255, 256, 0}, {api.AtPull, api.RS, 127, 384, 128},
		{api.AtIrq, api.RA, 1, 65534, 1}, {api.AtIrqHigh, api.RA, 1, 65535, 1}, {api.AtNmi, api.RA, 1, 65530, 1},
		{api.AtNmiHigh, api.RA, 1, 65531, 1}, {api.AtRes, api.RA, 1, 65532, 1}, {api.AtResHigh, api.RA, 1, 65533, 1},
		{-1, api.RA, 1, 0, 1}, {api.NumAts, api.RA, 1, 0, 1},
	}
	for _, at := range extremes {
		l = append(l, place{at, api.RA, 1, 0, 1})
	}
	return l
}

// P5.3: the addresses, and what becomes of PC and S, whatever the Op with these cycles.
func TestAddresses(t *testing.T) {
	for _, p := range places() {
		x := []api.Cycle{{}, {Bus: api.BRead, At: p.at, Reg: api.RX}}
		c := api.Cpu{Instrs: []api.Instr{{Op: 0, Cycles: x}, {Op: 255, Cycles: x}}, Res: x, Irq: x, Nmi: x}
		for _, op := range []int{0, 255, api.OpIrq, api.OpNmi, api.OpRes} {
			k := api.Core{Op: op, At: 1, R: with(regs(), p.reg, p.n)}
			want := api.Core{Op: op, At: 1, R: with(regs(), p.reg, p.then)}
			if got, b := core.Ask(c, k, true); got != want || b != (api.Bus{Do: api.BRead, Addr: p.addr}) {
				t.Errorf("Op %d, %v: %v, %v", op, p, got, b)
			}
			k.Nmi, want.Nmi = true, true
			x[1].Bus = api.BWrite
			if got, b := core.Ask(c, k, false); got != want || b != (api.Bus{Do: api.BWrite, Addr: p.addr, Data: 22}) {
				t.Errorf("writing, Op %d, %v: %v, %v", op, p, got, b)
			}
			x[1].Bus = api.BRead
		}
	}
}

// P5.3: the byte that is written, from each register, as it was before PC or S moved.
func TestWrittenBytes(t *testing.T) {
	for reg, data := range []int{11, 22, 33, 44, 80, 66, 77, 0x58, 0x63} {
		for at := range api.NumAts {
			k := api.Core{Op: 7, R: regs()}
			if _, b := core.Ask(only(api.Cycle{Bus: api.BWrite, At: at, Reg: reg}), k, false); b.Do != api.BWrite || b.Data != data {
				t.Errorf("At %d, register %d: %v", at, reg, b)
			}
			if _, b := core.Ask(only(api.Cycle{Bus: api.BRead, At: at, Reg: reg}), k, false); b.Do != api.BRead || b.Data != 0 {
				t.Errorf("reading, At %d, register %d: %v", at, reg, b)
			}
		}
	}
	for _, reg := range append([]int{-1, api.NumRegs}, extremes...) {
		b := api.Bus{Do: api.BWrite, Addr: 0x3463}
		if _, got := core.Ask(only(api.Cycle{Bus: api.BWrite, At: api.AtAD, Reg: reg}), api.Core{Op: 7, R: regs()}, false); got != b {
			t.Errorf("register %d: %v", reg, got)
		}
	}
}

// P5.3: a cycle without the bus moves neither PC nor S, wherever it would read or write.
func TestNoBus(t *testing.T) {
	for at := range api.NumAts {
		k := api.Core{Op: 7, R: regs()}
		if got, b := core.Ask(only(api.Cycle{At: at, Reg: api.RX}), k, true); got != k || b != (api.Bus{}) {
			t.Errorf("At %d: %v, %v", at, got, b)
		}
	}
}

// P5.3: a number that is neither reading nor writing nor none stands on the bus as it is.
func TestOtherBus(t *testing.T) {
	for _, do := range append([]int{-1, 3}, extremes...) {
		k, want := api.Core{Op: 7, R: regs()}, api.Core{Op: 7, R: with(regs(), api.RS, 45)}
		if got, b := core.Ask(only(api.Cycle{Bus: do, At: api.AtPull, Reg: api.RX}), k, true); got != want || b != (api.Bus{Do: do, Addr: 301}) {
			t.Errorf("Bus %d: %v, %v", do, got, b)
		}
		want = api.Core{Op: api.OpIdle, R: regs()}
		if got := core.Tell(only(api.Cycle{Bus: do, At: api.AtPull, Reg: api.RX}), k, 1); got != want {
			t.Errorf("told, Bus %d: %v", do, got)
		}
	}
}

// without lists states that have no current cycle with the processor all.
func without() []api.Core {
	var l []api.Core
	for _, op := range []int{7, api.OpIrq, api.OpNmi, api.OpRes} {
		for _, at := range append([]int{-1, 1, 2}, extremes...) {
			l = append(l, api.Core{Op: op, At: at, R: regs()})
		}
	}
	for _, op := range append([]int{0, 6, 8, 9, 255, api.OpJam}, extremes...) {
		for _, at := range append([]int{-1, 0, 1}, extremes...) {
			l = append(l, api.Core{Op: op, At: at, R: regs()})
		}
	}
	return l
}

// all is a processor whose cycles, if there are any, are all alike, and which has instructions with numbers that are no bytes.
func all() api.Cpu {
	x := []api.Cycle{{Bus: api.BRead, At: api.AtPC, Reg: api.RA, Steps: []api.Step{{Do: api.SInc, To: api.RX}}}}
	c := api.Cpu{Res: x, Irq: x, Nmi: x, Instrs: []api.Instr{{Op: 7, Cycles: x}, {Op: 9}, {Op: 9, Cycles: x}}}
	for _, op := range append([]int{api.OpJam, api.OpIdle}, extremes...) {
		c.Instrs = append(c.Instrs, api.Instr{Op: op, Cycles: x})
	}
	return c
}

// P5.3, P5.4
func TestNoCurrentCycle(t *testing.T) {
	for _, k := range without() {
		for _, waits := range []bool{false, true} {
			k.Nmi = waits
			if got, b := core.Ask(all(), k, true); got != k || b != (api.Bus{}) {
				t.Errorf("Ask(%v): %v, %v", k, got, b)
			}
			want := api.Core{Op: api.OpIdle, R: k.R, Nmi: waits}
			if k.Op == api.OpJam {
				want = k
			}
			if got := core.Tell(all(), k, 7); got != want {
				t.Errorf("Tell(%v): %v", k, got)
			}
		}
	}
}

// P5.4: the byte that is read between instructions.
func TestTellBetweenInstructions(t *testing.T) {
	c := all()
	c.Instrs = append(c.Instrs, api.Instr{Op: 0, Cycles: c.Res}, api.Instr{Op: 255, Cycles: c.Res}, api.Instr{Op: 255})
	for _, x := range []struct{ data, op int }{
		{7, 7}, {0, 0}, {255, 255}, {9, api.OpIdle}, {6, api.OpJam}, {8, api.OpJam}, {254, api.OpJam}, {1, api.OpJam},
		{256, 0}, {256 + 7, 7}, {-1, 255}, {-256, 0}, {-249, 7}, {-257, 255}, {512 + 9, api.OpIdle}, {65535, 255}, {math.MaxInt, 255}, {math.MinInt, 0}, {api.OpJam, api.OpJam},
	} {
		for _, at := range []int{0, 1, -5, math.MaxInt} {
			k, want := api.Core{Op: api.OpIdle, At: at, Nmi: true, R: regs()}, api.Core{Op: x.op, Nmi: true, R: regs()}
			if got := core.Tell(c, k, x.data); got != want {
				t.Errorf("Tell(%v, %d): %v", k, x.data, got)
			}
		}
	}
	// All numbers, without instructions.
	for data := -300; data < 600; data++ {
		if got := core.Tell(api.Cpu{}, api.Core{Op: api.OpIdle}, data); got != (api.Core{Op: api.OpJam}) {
			t.Errorf("without instructions, %d: %v", data, got)
		}
	}
}

// P5.3, P5.4: of several instructions with one byte, the first one counts.
func TestFirstInstruction(t *testing.T) {
	c := api.Cpu{Instrs: []api.Instr{
		{Op: 200}, {Op: 5, Cycles: []api.Cycle{{Bus: api.BRead, At: api.AtAD, Reg: api.RX}, {}}}, {Op: 5, Cycles: []api.Cycle{{Bus: api.BWrite, At: api.AtHere}}}, {Op: 1},
	}}
	k := core.Tell(c, api.Core{Op: api.OpIdle, R: regs()}, 5)
	k, b := core.Ask(c, k, false)
	if b != (api.Bus{Do: api.BRead, Addr: 0x3463}) {
		t.Errorf("Ask: %v, %v", k, b)
	}
	if k = core.Tell(c, k, 99); k != (api.Core{Op: 5, At: 1, R: with(regs(), api.RX, 99)}) {
		t.Errorf("Tell: %v", k)
	}
}

// P5.4: a byte that is read goes to the register, if there is one.
func TestTellReads(t *testing.T) {
	for _, data := range []int{0, 1, 255, 256, -1, 1000, math.MinInt, math.MaxInt} {
		for reg := range api.NumRegs {
			k, want := api.Core{Op: 7, R: regs()}, api.Core{Op: 7, At: 1, R: with(regs(), reg, (data%256+256)%256)}
			if got := core.Tell(only(api.Cycle{Bus: api.BRead, At: api.AtPush, Reg: reg}, api.Cycle{}), k, data); got != want {
				t.Errorf("register %d, %d: %v", reg, data, got)
			}
			for _, bus := range []int{api.BNone, api.BWrite} {
				want.R = regs()
				if got := core.Tell(only(api.Cycle{Bus: bus, At: api.AtPC, Reg: reg}, api.Cycle{}), k, data); got != want {
					t.Errorf("Bus %d, register %d, %d: %v", bus, reg, data, got)
				}
			}
		}
		for _, reg := range append([]int{-1, api.NumRegs}, extremes...) {
			k, want := api.Core{Op: 7, R: regs()}, api.Core{Op: 7, At: 1, R: regs()}
			if got := core.Tell(only(api.Cycle{Bus: api.BRead, Reg: reg}, api.Cycle{}), k, data); got != want {
				t.Errorf("register %d, %d: %v", reg, data, got)
			}
		}
	}
}

// P5.4: the steps are done in order, behind the reading, and only those of the current cycle.
func TestSteps(t *testing.T) {
	inc := func(reg int) []api.Step { return []api.Step{{Do: api.SInc, To: reg}} }
	c := only(
		api.Cycle{Steps: inc(api.RX)},
		api.Cycle{Bus: api.BRead, Reg: api.RT, Steps: []api.Step{{Do: api.SMove, To: api.RA, From: api.RT}, {Do: api.SShl, To: api.RA}, {Do: api.SLit, To: api.RT, N: 3}}},
		api.Cycle{Steps: inc(api.RY)},
	)
	k := api.Core{Op: 7, At: 1, Nmi: true, R: regs()}
	want := api.Core{Op: 7, At: 2, Nmi: true, R: with(with(with(k.R, api.RA, 2), api.RT, 3), api.RP, 80+api.FC)}
	if got := core.Tell(c, k, 129); got != want {
		t.Errorf("%v: %v", k, got)
	}
}

// P5.4: behind the last cycle the processor is between instructions, also if it answered something.
func TestLastCycle(t *testing.T) {
	x := []api.Cycle{{}, {}, {}}
	c := api.Cpu{Instrs: []api.Instr{{Op: 7, Cycles: x}}, Res: x, Irq: x[:2], Nmi: x[:1]}
	for _, l := range []struct{ op, many int }{{7, 3}, {api.OpRes, 3}, {api.OpIrq, 2}, {api.OpNmi, 1}} {
		for at := range l.many {
			want := api.Core{Op: l.op, At: at + 1, R: regs()}
			if at+1 == l.many {
				want.Op, want.At = api.OpIdle, 0
			}
			if got := core.Tell(c, api.Core{Op: l.op, At: at, R: regs()}, 0); got != want {
				t.Errorf("Op %d, At %d: %v", l.op, at, got)
			}
		}
	}
}

// P5.4: a step that ends the instruction is the last one, be it in the last cycle or in an earlier one.
func TestSIf(t *testing.T) {
	steps := []api.Step{{Do: api.SInc, To: api.RT}, {Do: api.SIf, From: 1, N: api.FC}, {Do: api.SInc, To: api.RU}, {Do: api.SIf, From: 0, N: api.FI}, {Do: api.SInc, To: api.RAD}}
	for _, follows := range []bool{false, true} {
		c := only(api.Cycle{Steps: steps})
		if follows {
			c = only(api.Cycle{Steps: steps}, api.Cycle{})
		}
		for flags, many := range map[int]int{0: 1, api.FI: 1, api.FC | api.FI: 2, api.FC: 3} {
			want := api.Core{Op: api.OpIdle, R: api.Regs{api.RT: 1, api.RP: flags}}
			if many > 1 {
				want.R[api.RU] = 1
			}
			if many > 2 {
				want.R[api.RAD] = 1
				if follows {
					want.Op, want.At = 7, 1
				}
			}
			if got := core.Tell(c, api.Core{Op: 7, R: api.Regs{api.RP: flags}}, 0); got != want {
				t.Errorf("flags %d, a cycle follows: %v: %v", flags, follows, got)
			}
		}
	}
}

// Both functions make the registers fit first, whatever else they do.
func TestFit(t *testing.T) {
	large := api.Regs{256 + 11, -256 + 22, 33 - 1<<20, 44 + 1<<20, 256 + 80, -256 + 66, 77, 0x1258 + 65536, 0x3463 - 65536}
	c := all()
	c.Instrs = append(c.Instrs, api.Instr{Op: 3, Cycles: []api.Cycle{{}, {}}})
	for _, k := range append(without(), api.Core{Op: 3}, api.Core{Op: api.OpIdle}) {
		k.R = large
		got, _ := core.Ask(c, k, false)
		if k.Op == api.OpIdle {
			got.R[api.RPC]--
		}
		if got.R != regs() {
			t.Errorf("Ask(%v): %v", k, got)
		}
		if got := core.Tell(c, k, 0); got.R != regs() {
			t.Errorf("Tell(%v): %v", k, got)
		}
	}
	// S and FI count as they are then.
	k := api.Core{Op: api.OpIdle, R: api.Regs{api.RP: 256 + api.FI, api.RS: 256}}
	if got, b := core.Ask(answering(true, false), k, true); got.Op != api.OpIdle || b.Do != api.BRead {
		t.Errorf("FI: %v, %v", got, b)
	}
	k.Op = 7
	if got, b := core.Ask(only(api.Cycle{Bus: api.BWrite, At: api.AtPush, Reg: api.RP}), k, true); got.R[api.RS] != 255 || b != (api.Bus{Do: api.BWrite, Addr: 256, Data: 4}) {
		t.Errorf("S: %v, %v", got, b)
	}
}

// copied is a copy of cycles, with the memory behind their lengths.
func copied(l []api.Cycle) []api.Cycle {
	full := slices.Clone(l[:cap(l)])
	for at := range full {
		full[at].Steps = slices.Clone(full[at].Steps[:cap(full[at].Steps)])
	}
	return full
}

func equal(a, b []api.Cycle) bool {
	return slices.EqualFunc(a, b, func(a, b api.Cycle) bool {
		return a.Bus == b.Bus && a.At == b.At && a.Reg == b.Reg && slices.Equal(a.Steps[:cap(a.Steps)], b.Steps[:cap(b.Steps)])
	})
}

// Z2: the processor is not changed, not even behind its lengths, and the same call has the same result.
func TestArgumentsStay(t *testing.T) {
	steps := []api.Step{{Do: api.SInc, To: api.RT}, {Do: api.SIf, N: api.FC}, {Do: 5, To: 6, From: 7, N: 8}}[:2]
	x := []api.Cycle{{Bus: api.BWrite, At: api.AtPush, Reg: api.RS, Steps: steps}, {Bus: api.BRead, Reg: api.RT, Steps: steps}, {Bus: 9, At: 9, Reg: 9}}[:2]
	before := copied(x)
	c := api.Cpu{Name: "stays", Res: x, Irq: x, Nmi: x, Instrs: []api.Instr{{Op: 7, Name: "seven", Cycles: x}, {Op: 3, Name: "spare"}}[:1]}
	for _, op := range []int{7, 3, api.OpIdle, api.OpIrq, api.OpNmi, api.OpRes, api.OpJam} {
		for at := range 4 {
			k := api.Core{Op: op, At: at, Nmi: at%2 == 1, R: regs()}
			a, b := core.Ask(c, k, true)
			if again, bus := core.Ask(c, k, true); again != a || bus != b {
				t.Errorf("Ask(%v): %v, then %v", k, a, again)
			}
			if a, again := core.Tell(c, k, 7), core.Tell(c, k, 7); again != a {
				t.Errorf("Tell(%v): %v, then %v", k, a, again)
			}
		}
	}
	for _, l := range [][]api.Cycle{c.Res, c.Irq, c.Nmi, c.Instrs[0].Cycles} {
		if !equal(l[:cap(l)], before) {
			t.Errorf("the cycles have changed: %v", l[:cap(l)])
		}
	}
	if spare := c.Instrs[:2][1]; c.Instrs[0].Op != 7 || c.Instrs[0].Name != "seven" || spare.Op != 3 || spare.Name != "spare" || spare.Cycles != nil {
		t.Errorf("the instructions have changed: %v", c.Instrs[:2])
	}
}

// Z4: a list that is empty is as good as none.
func TestEmptyLists(t *testing.T) {
	none := api.Cpu{Instrs: []api.Instr{{Op: 7}}}
	empty := api.Cpu{Instrs: []api.Instr{{Op: 7, Cycles: []api.Cycle{}}}, Res: []api.Cycle{}, Irq: []api.Cycle{}, Nmi: []api.Cycle{}}
	for _, op := range []int{7, api.OpIdle, api.OpIrq, api.OpNmi, api.OpRes, api.OpJam} {
		k := api.Core{Op: op, Nmi: true, R: regs()}
		a, b := core.Ask(none, k, true)
		if again, bus := core.Ask(empty, k, true); again != a || bus != b {
			t.Errorf("Ask(%v): %v or %v", k, a, again)
		}
		if a, again := core.Tell(none, k, 7), core.Tell(empty, k, 7); again != a {
			t.Errorf("Tell(%v): %v or %v", k, a, again)
		}
	}
}

// The example of chapter 5.
func TestReset(t *testing.T) {
	k, b := core.Ask(std.Cpu(), core.New(), false)
	if b != (api.Bus{Do: api.BRead, Addr: 65532}) || k != core.New() {
		t.Errorf("%v, %v", k, b)
	}
}
