package whole_test

import (
	"math"
	"slices"
	"strings"
	"testing"

	"bakelite/api"
	"bakelite/std"
	"bakelite/table"
	"bakelite/whole"
)

// The names of api, in the order of their numbers.
var (
	regNames  = strings.Fields("A X Y S P T U PC AD")
	stepNames = strings.Fields("SNop SMove SLit SNZ SAdd SSub SCmp SAnd SOr SXor SInc SDec SShl SShr SRol SRor SSet SClr SLow SHigh SGetLow SGetHigh SIndex SRel SIf")
)

// stepsWith are cycles without the bus, each with these steps.
func stepsWith(l ...[]api.Step) api.Instr {
	var x api.Instr
	for _, steps := range l {
		x.Cycles = append(x.Cycles, api.Cycle{Steps: steps})
	}
	return x
}

// P7.3
func TestTimes(t *testing.T) {
	nop, test := api.Step{}, api.Step{Do: api.SIf, N: api.FZ}
	never := api.Step{Do: api.SIf, From: 0, N: 0}
	for _, x := range []struct {
		instr       api.Instr
		least, most int
	}{
		{api.Instr{}, 1, 1},
		{stepsWith(nil), 2, 2},
		{stepsWith(nil, nil, nil), 4, 4},
		{stepsWith([]api.Step{nop, nop}, []api.Step{nop}), 3, 3},
		{stepsWith([]api.Step{test}), 2, 2},
		{stepsWith([]api.Step{test}, nil, nil), 2, 4},
		{stepsWith(nil, []api.Step{test}, nil), 3, 4},
		{stepsWith(nil, nil, []api.Step{test}), 4, 4},
		{stepsWith(nil, []api.Step{nop, nop, test}, nil, nil), 3, 5},
		{stepsWith(nil, []api.Step{test, nop, nop}, nil, nil), 3, 5},
		{stepsWith([]api.Step{test}, []api.Step{test}, []api.Step{test}), 2, 4},
		{stepsWith(nil, []api.Step{test}, nil, []api.Step{test}, nil), 3, 6},
		{stepsWith([]api.Step{never}, nil), 2, 3},
		{stepsWith(make([][]api.Step, 30)...), 31, 31},
		{stepsWith([]api.Step{{Do: api.SRel, To: api.RPC}, {Do: api.NumSteps}, {Do: -1}, {Do: math.MaxInt}}, nil), 3, 3},
	} {
		if least, most := whole.Times(x.instr); least != x.least || most != x.most {
			t.Errorf("%v: %d to %d, not %d to %d", x.instr, least, most, x.least, x.most)
		}
	}
}

// P7.3: for a step of every kind: only SIf may end an instruction.
func TestTimesOfSteps(t *testing.T) {
	for do, name := range stepNames {
		want := 3
		if name == "SIf" {
			want = 2
		}
		if least, most := whole.Times(stepsWith([]api.Step{{Do: do}}, nil)); least != want || most != 3 {
			t.Errorf("%s: %d to %d", name, least, most)
		}
	}
}

// P7.4: what the list of the promise says of a step of every kind, with every To.
func TestTouchesOfSteps(t *testing.T) {
	const (
		keepTo = " SNop SIf SNZ SCmp SSet SClr "
		flags  = " SNZ SCmp SSet SClr SAdd SSub SAnd SOr SXor SShl SShr SRol SRor "
		counts = " SInc SDec "
	)
	for do, name := range stepNames {
		for to := range api.NumRegs {
			for reg := range api.NumRegs {
				want := to == reg && !strings.Contains(keepTo, " "+name+" ")
				if regNames[reg] == "P" {
					want = want || strings.Contains(flags, " "+name+" ")
					want = want || strings.Contains(counts, " "+name+" ") && regNames[to] != "PC" && regNames[to] != "AD"
				}
				s := api.Step{Do: do, To: to, From: 1, N: 255}
				for _, x := range []api.Instr{stepsWith([]api.Step{s}), stepsWith(nil, []api.Step{{}, s, {}}, nil)} {
					if got := whole.Touches(x, reg); got != want {
						t.Errorf("%s of %s touches %s: %v", name, regNames[to], regNames[reg], got)
					}
				}
			}
		}
	}
}

// P7.4: From is not touched.
func TestTouchesNotFrom(t *testing.T) {
	for reg := range api.NumRegs {
		to := (reg + 1) % api.NumRegs
		if whole.Touches(stepsWith([]api.Step{{Do: api.SMove, To: to, From: reg}}), reg) {
			t.Errorf("%s", regNames[reg])
		}
	}
}

// P7.4: the bus touches the register that it reads into, and S at the stack.
func TestTouchesOfBus(t *testing.T) {
	for bus := range 3 {
		for at := range api.NumAts {
			for own := range api.NumRegs {
				for reg := range api.NumRegs {
					want := bus == api.BRead && own == reg
					if regNames[reg] == "S" && bus != api.BNone && (at == 4 || at == 5) {
						want = true
					}
					x := api.Instr{Cycles: []api.Cycle{{Steps: []api.Step{{}}}, {Bus: bus, At: at, Reg: own}}}
					if got := whole.Touches(x, reg); got != want {
						t.Errorf("bus %d at %d with %s touches %s: %v", bus, at, regNames[own], regNames[reg], got)
					}
				}
			}
		}
	}
}

// P7.4: an instruction without cycles touches nothing, and numbers that are none have no panic (Z1).
func TestTouchesNothing(t *testing.T) {
	for _, n := range []int{math.MinInt, -1, 0, api.RS, api.RP, api.NumRegs, 255, math.MaxInt} {
		if whole.Touches(api.Instr{}, n) || whole.Touches(api.Instr{Op: n, Mode: n}, n) {
			t.Errorf("%d", n)
		}
		whole.Touches(api.Instr{Cycles: []api.Cycle{{Bus: n, At: n, Reg: n, Steps: []api.Step{{Do: n, To: n, From: n, N: n}}}}}, n)
	}
}

// touched are the registers that a program sees, by what the instructions of the museum's processor do, and not by their cycles. Those with a star do so only without an operand in memory.
const touched = `
lda A P
ldx X P
ldy Y P
sta
stx
sty
adc A P
sbc A P
and A P
ora A P
eor A P
cmp P
cpx P
cpy P
inc P
dec P
asl A* P
lsr A* P
rol A* P
ror A* P
tax X P
tay Y P
txa A P
tya A P
tsx X P
txs S
inx X P
iny Y P
dex X P
dey Y P
clc P
sec P
cli P
sei P
nop
pha S
pla A S P
php S
plp S P
jmp PC
jsr S PC
rts S PC
rti S P PC
beq PC
bne PC
bcs PC
bcc PC
bmi PC
bpl PC
`

// P7.4: all instructions of the museum's processor.
func TestTouchesOfStd(t *testing.T) {
	rows := map[string][]string{}
	for _, line := range strings.Split(strings.TrimSpace(touched), "\n") {
		w := strings.Fields(line)
		rows[w[0]] = w[1:]
	}
	for _, x := range std.Cpu().Instrs {
		row, ok := rows[x.Name]
		if !ok {
			t.Fatalf("no row for %s", x.Name)
		}
		for reg, name := range regNames {
			if name == "T" || name == "U" || name == "AD" {
				continue
			}
			want := slices.Contains(row, name) || slices.Contains(row, name+"*") && x.Mode == api.MNone
			if got := whole.Touches(x, reg); got != want {
				t.Errorf("%s with mode %d touches %s: %v", x.Name, x.Mode, name, got)
			}
		}
	}
}

// P7.3: the times of the museum's processor: only branches have two.
func TestTimesOfStd(t *testing.T) {
	c := std.Cpu()
	for _, x := range c.Instrs {
		least, most := whole.Times(x)
		if (x.Mode == api.MRel) != (least < most) || most != 1+len(x.Cycles) {
			t.Errorf("%s with mode %d: %d to %d", x.Name, x.Mode, least, most)
		}
	}
	for _, x := range []struct {
		name              string
		mode, least, most int
	}{
		{"nop", api.MNone, 2, 2}, {"lda", api.MImm, 2, 2}, {"lda", api.MZero, 3, 3}, {"lda", api.MAbsX, 5, 5}, {"inc", api.MAbs, 5, 5},
		{"jmp", api.MAbs, 3, 3}, {"jsr", api.MAbs, 5, 5}, {"rti", api.MNone, 4, 4}, {"bpl", api.MRel, 2, 3},
	} {
		y, _ := table.Named(c, x.name, x.mode)
		if least, most := whole.Times(y); least != x.least || most != x.most {
			t.Errorf("%s with mode %d: %d to %d", x.name, x.mode, least, most)
		}
	}
}
