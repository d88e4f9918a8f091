package whole_test

import (
	"fmt"
	"math"
	"slices"
	"testing"

	"bakelite/api"
	"bakelite/core"
	"bakelite/std"
	"bakelite/table"
	"bakelite/whole"
)

// noted is a memory that notes what is asked of it.
type noted struct {
	bytes map[int]int
	calls []string
}

func (m *noted) Read(addr int) int {
	m.calls = append(m.calls, fmt.Sprint("read ", addr))
	return m.bytes[addr]
}

func (m *noted) Write(addr, data int) {
	m.calls = append(m.calls, fmt.Sprint("write ", addr, " ", data))
	m.bytes[addr] = data
}

// holding is a memory with these numbers from an address on.
func holding(at int, l ...int) *noted {
	m := &noted{bytes: map[int]int{}}
	for n, x := range l {
		m.bytes[at+n] = x
	}
	return m
}

// idle is a processor between instructions.
func idle(r api.Regs) api.Core {
	return api.Core{Op: api.OpIdle, R: r}
}

// only is a processor with one instruction of the byte 7, which has these cycles.
func only(l ...api.Cycle) api.Cpu {
	return api.Cpu{Name: "only", Instrs: []api.Instr{{Op: 7, Name: "seven", Cycles: l}}}
}

func TestMaxRun(t *testing.T) {
	if whole.MaxRun != 20 {
		t.Error(whole.MaxRun)
	}
}

// P7.1: a cycle that reads asks the memory once, and what comes back is taken modulo 256.
func TestCycleReads(t *testing.T) {
	c := only(api.Cycle{Bus: api.BRead, At: api.AtAD, Reg: api.RY}, api.Cycle{})
	for n, data := range map[int]int{
		0: 0, 1: 1, 255: 255, 256: 0, 257: 1, 1000: 232, -1: 255, -256: 0, -257: 255, math.MaxInt: 255, math.MinInt: 0, math.MinInt + 7: 7,
	} {
		m := holding(500, n)
		k, b := whole.Cycle(c, api.Core{Op: 7, R: api.Regs{api.RAD: 500, api.RPC: 3}}, false, m)
		want := api.Core{Op: 7, At: 1, R: api.Regs{api.RY: data, api.RAD: 500, api.RPC: 3}}
		if k != want || b != (api.Bus{Do: api.BRead, Addr: 500, Data: data}) || !slices.Equal(m.calls, []string{"read 500"}) {
			t.Errorf("%d: %v, %v, %v", n, k, b, m.calls)
		}
	}
}

// P7.1: the byte of an instruction is also taken modulo 256.
func TestCycleReadsInstruction(t *testing.T) {
	for n, op := range map[int]int{7: 7, 263: 7, -249: 7, 8: api.OpJam, 256: api.OpJam, -1: api.OpJam} {
		m := holding(65535, n)
		k, b := whole.Cycle(only(api.Cycle{}), idle(api.Regs{api.RPC: -1}), false, m)
		if k != (api.Core{Op: op}) || b.Do != api.BRead || b.Addr != 65535 || b.Data != (n+256)%256 || !slices.Equal(m.calls, []string{"read 65535"}) {
			t.Errorf("%d: %v, %v, %v", n, k, b, m.calls)
		}
	}
}

// P7.1: a cycle that writes gives the byte to the memory, and does its steps behind that.
func TestCycleWrites(t *testing.T) {
	step := api.Step{Do: api.SInc, To: api.RX}
	c := only(api.Cycle{Bus: api.BWrite, At: api.AtPush, Reg: api.RX, Steps: []api.Step{step}})
	m := holding(0)
	k, b := whole.Cycle(c, api.Core{Op: 7, R: api.Regs{api.RX: 199, api.RS: 0}}, false, m)
	if k != idle(api.Regs{api.RX: 200, api.RS: 255, api.RP: api.FN}) || b != (api.Bus{Do: api.BWrite, Addr: 256, Data: 199}) {
		t.Errorf("%v, %v", k, b)
	}
	if !slices.Equal(m.calls, []string{"write 256 199"}) {
		t.Error(m.calls)
	}
}

// P7.1: without reading and writing the memory is not asked, also in a cycle that is not valid.
func TestCycleWithoutMemory(t *testing.T) {
	set := []api.Step{{Do: api.SSet, N: api.FC}}
	for _, x := range []struct {
		cycle api.Cycle
		bus   api.Bus
	}{
		{api.Cycle{Steps: set}, api.Bus{}},
		{api.Cycle{At: api.AtAD, Reg: api.RX, Steps: set}, api.Bus{}},
		{api.Cycle{Bus: 3, At: api.AtAD, Reg: api.RX, Steps: set}, api.Bus{Do: 3, Addr: 9}},
		{api.Cycle{Bus: -1, At: api.AtAD, Reg: api.RX, Steps: set}, api.Bus{Do: -1, Addr: 9}},
	} {
		m := holding(0)
		k, b := whole.Cycle(only(x.cycle), api.Core{Op: 7, R: api.Regs{api.RX: 5, api.RAD: 9}}, true, m)
		if k != idle(api.Regs{api.RX: 5, api.RAD: 9, api.RP: api.FC}) || b != x.bus || len(m.calls) > 0 {
			t.Errorf("%v: %v, %v, %v", x.cycle, k, b, m.calls)
		}
	}
}

// P7.1: the interrupt line counts, and so does an interrupt that cannot be masked.
func TestCycleInterrupts(t *testing.T) {
	c := std.Cpu()
	for _, x := range []struct {
		irq, nmi bool
		flags    int
		op       int
	}{
		{false, false, 0, 78}, {true, false, 0, api.OpIrq}, {true, false, api.FI, 78}, {false, true, 0, api.OpNmi}, {true, true, 0, api.OpNmi}, {true, true, api.FI, api.OpNmi},
	} {
		k, b := whole.Cycle(c, api.Core{Op: api.OpIdle, Nmi: x.nmi, R: api.Regs{api.RP: x.flags}}, x.irq, holding(0, 78))
		if k.Op != x.op || k.Nmi || (b == api.Bus{}) != (x.op != 78) {
			t.Errorf("%+v: %v, %v", x, k, b)
		}
	}
}

// P7.2: the bus in every cycle of an instruction, and the memory that each cycle leaves to the next one.
func TestRun(t *testing.T) {
	c := std.Cpu()
	for _, x := range []struct {
		code  []int
		calls string
		cores api.Core
	}{
		{[]int{78}, "[read 1000]", idle(api.Regs{api.RPC: 1001, api.RS: 1})},
		{[]int{52, 20}, "[read 1000 read 1001 read 20 write 20 1]", idle(api.Regs{api.RPC: 1002, api.RS: 1, api.RT: 1, api.RAD: 20})},
		{[]int{84, 52, 18}, "[read 1000 read 1001 read 1002 write 257 3 write 256 235]", idle(api.Regs{api.RPC: 4660, api.RS: 255, api.RT: 235, api.RAD: 4660})},
		{[]int{87, 5}, "[read 1000 read 1001]", idle(api.Regs{api.RPC: 1002, api.RS: 1, api.RT: 5})},
		{[]int{88, 5}, "[read 1000 read 1001]", idle(api.Regs{api.RPC: 1007, api.RS: 1, api.RT: 5})},
		{[]int{0}, "[read 1000]", api.Core{Op: api.OpJam, R: api.Regs{api.RPC: 1001, api.RS: 1}}},
	} {
		m := holding(1000, x.code...)
		k, _ := whole.Run(c, idle(api.Regs{api.RPC: 1000, api.RS: 1}), m)
		if k != x.cores || fmt.Sprint(m.calls) != x.calls {
			t.Errorf("%v: %v, %v", x.code, k, m.calls)
		}
	}
}

// P7.2: the list has the cycles without the bus, too.
func TestRunLists(t *testing.T) {
	c := std.Cpu()
	for _, x := range []struct {
		code []int
		want []api.Bus
	}{
		{[]int{78}, []api.Bus{{Do: api.BRead, Addr: 1000, Data: 78}, {}}},
		{[]int{80}, []api.Bus{{Do: api.BRead, Addr: 1000, Data: 80}, {Do: api.BRead, Addr: 256, Data: 50}}},
		{[]int{87, 5}, []api.Bus{{Do: api.BRead, Addr: 1000, Data: 87}, {Do: api.BRead, Addr: 1001, Data: 5}}},
		{[]int{88, -1}, []api.Bus{{Do: api.BRead, Addr: 1000, Data: 88}, {Do: api.BRead, Addr: 1001, Data: 255}, {}}},
		{[]int{256 + 14, 9}, []api.Bus{{Do: api.BRead, Addr: 1000, Data: 14}, {Do: api.BRead, Addr: 1001, Data: 9}, {Do: api.BWrite, Addr: 9, Data: 77}}},
	} {
		m := holding(1000, x.code...)
		m.bytes[256] = 50
		if _, l := whole.Run(c, idle(api.Regs{api.RA: 77, api.RS: 255, api.RPC: 1000}), m); !slices.Equal(l, x.want) {
			t.Errorf("%v: %v", x.code, l)
		}
	}
}

// P7.2: a run ends behind a cycle, so it has at least one, and goes on with what was begun.
func TestRunEnds(t *testing.T) {
	c := only(api.Cycle{}, api.Cycle{}, api.Cycle{})
	c.Instrs = append(c.Instrs, api.Instr{Op: 8, Name: "eight"})
	for _, x := range []struct {
		k    api.Core
		want api.Core
		many int
	}{
		{api.Core{Op: 7}, api.Core{Op: api.OpIdle}, 3},
		{api.Core{Op: 7, At: 2}, api.Core{Op: api.OpIdle}, 1},
		{api.Core{Op: 7, At: 3}, api.Core{Op: api.OpIdle}, 1},
		{api.Core{Op: 7, At: -1}, api.Core{Op: api.OpIdle}, 1},
		{api.Core{Op: 9}, api.Core{Op: api.OpIdle}, 1},
		{api.Core{Op: 300}, api.Core{Op: api.OpIdle}, 1},
		{api.Core{Op: math.MinInt, At: math.MaxInt}, api.Core{Op: api.OpIdle}, 1},
		{core.New(), api.Core{Op: api.OpIdle, R: api.Regs{api.RP: api.FI}}, 1},
		{api.Core{Op: api.OpJam, At: 5, Nmi: true}, api.Core{Op: api.OpJam, At: 5, Nmi: true}, 1},
		{idle(api.Regs{api.RPC: 7}), api.Core{Op: api.OpIdle, R: api.Regs{api.RPC: 8}}, 4},
		{idle(api.Regs{api.RPC: 8}), api.Core{Op: api.OpIdle, R: api.Regs{api.RPC: 9}}, 1},
		{idle(api.Regs{api.RPC: 9}), api.Core{Op: api.OpJam, R: api.Regs{api.RPC: 10}}, 1},
	} {
		if k, l := whole.Run(c, x.k, holding(0, 0, 1, 2, 3, 4, 5, 6, 7, 8, 9)); k != x.want || len(l) != x.many {
			t.Errorf("%v: %v after %d cycles", x.k, k, len(l))
		}
	}
}

// P7.2: the interrupt line is low, but an interrupt that cannot be masked is answered, as one run.
func TestRunInterrupts(t *testing.T) {
	c := std.Cpu()
	m := holding(65530, 10, 20)
	k := idle(api.Regs{api.RPC: 1000, api.RS: 255})
	m.bytes[1000] = 78
	if k, l := whole.Run(c, k, m); k.R[api.RPC] != 1001 || len(l) != 2 {
		t.Errorf("without an interrupt: %v, %v", k, l)
	}
	if k, l := whole.Run(c, core.Nmi(k), m); k.R[api.RPC] != 5130 || k.R[api.RS] != 252 || k.Nmi || k.Op != api.OpIdle || len(l) != 6 {
		t.Errorf("with an interrupt: %v, %v", k, l)
	}
	if k, l := whole.Run(c, core.New(), holding(65532, 1, 2)); k.R[api.RPC] != 513 || k.Op != api.OpIdle || len(l) != 2 {
		t.Errorf("the reset: %v, %v", k, l)
	}
}

// P7.2: only a processor that is not valid has an instruction that is longer than a run.
func TestRunIsLimited(t *testing.T) {
	for many := 17; many <= 60; many++ {
		c := only(make([]api.Cycle, many)...)
		k := idle(api.Regs{})
		for left := 1 + many; left > 0; left -= whole.MaxRun {
			var l []api.Bus
			k, l = whole.Run(c, k, holding(0, 7))
			if len(l) != min(left, 20) || (k.Op == api.OpIdle) != (left <= 20) {
				t.Errorf("%d cycles, %d left: %v after %d", many, left, k, len(l))
			}
		}
		if k != idle(api.Regs{api.RPC: 1}) {
			t.Errorf("%d cycles: %v", many, k)
		}
	}
}

// Z2: the list of a run is new memory, and the processor stays what it was.
func TestNewMemory(t *testing.T) {
	c, before := std.Cpu(), std.Cpu()
	_, first := whole.Run(c, idle(api.Regs{}), holding(0, 52, 16))
	want := slices.Clone(first)
	_, second := whole.Run(c, idle(api.Regs{}), holding(0, 52, 16))
	second = second[:cap(second)]
	for at := range second {
		second[at] = api.Bus{Do: 9}
	}
	if !slices.Equal(first, want) || len(want) != 4 {
		t.Errorf("%v, not %v", first, want)
	}
	if !table.Same(c, before) {
		t.Error("the processor has changed")
	}
}
