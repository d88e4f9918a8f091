package whole_test

import (
	"math/rand"
	"slices"
	"testing"

	"bakelite/api"
	"bakelite/core"
	"bakelite/table"
	"bakelite/whole"
)

// memory is a memory whose bytes are numbers that need not be bytes.
type memory [65536]int

func (m *memory) Read(addr int) int    { return m[addr] }
func (m *memory) Write(addr, data int) { m[addr] = data }

// randomStep is a valid step.
func randomStep(r *rand.Rand) api.Step {
	for {
		s := api.Step{Do: r.Intn(api.NumSteps), To: r.Intn(2) * r.Intn(api.NumRegs), From: r.Intn(2) * r.Intn(api.NumRegs), N: r.Intn(2) * r.Intn(256)}
		if table.Check(api.Cpu{Name: "c", Res: []api.Cycle{{Steps: []api.Step{s}}}}) == api.OK {
			return s
		}
	}
}

// randomCycles are valid cycles.
func randomCycles(r *rand.Rand) []api.Cycle {
	var l []api.Cycle
	for range r.Intn(6) {
		var x api.Cycle
		if x.Bus = r.Intn(3); x.Bus != api.BNone {
			x.At, x.Reg = r.Intn(api.NumAts), r.Intn(api.RU+1)
		}
		for range r.Intn(3) {
			x.Steps = append(x.Steps, randomStep(r))
		}
		l = append(l, x)
	}
	return l
}

// randomCpu has instructions with the bytes 0 to 9. It is not valid only because names are there twice, and modes do not agree.
func randomCpu(r *rand.Rand) api.Cpu {
	c := api.Cpu{Name: "random", Res: randomCycles(r), Irq: randomCycles(r), Nmi: randomCycles(r)}
	for op := range 10 {
		c.Instrs = append(c.Instrs, api.Instr{Op: op, Name: "a", Cycles: randomCycles(r)})
	}
	return c
}

func randomMemory(r *rand.Rand) *memory {
	m := new(memory)
	for at := range m {
		m[at] = r.Intn(11) + r.Intn(5)*256 - 512
	}
	return m
}

// modelCycle is P7.1.
func modelCycle(c api.Cpu, k api.Core, irq bool, m *memory) (api.Core, api.Bus) {
	k, b := core.Ask(c, k, irq)
	if b.Do == api.BRead {
		b.Data = (m[b.Addr]%256 + 256) % 256
	} else if b.Do == api.BWrite {
		m[b.Addr] = b.Data
	}
	return core.Tell(c, k, b.Data), b
}

// modelRun is P7.2.
func modelRun(c api.Cpu, k api.Core, m *memory) (api.Core, []api.Bus) {
	k, b := modelCycle(c, k, false, m)
	l := []api.Bus{b}
	for len(l) < 20 && k.Op != api.OpIdle && k.Op != api.OpJam {
		k, b = modelCycle(c, k, false, m)
		l = append(l, b)
	}
	return k, l
}

// randomCore is a processor that is most often between instructions.
func randomCore(r *rand.Rand) api.Core {
	k := api.Core{Op: api.OpIdle, Nmi: r.Intn(8) == 0}
	if r.Intn(4) == 0 {
		k.Op, k.At = []int{r.Intn(10), api.OpIrq, api.OpNmi, api.OpRes}[r.Intn(4)], r.Intn(4)
	}
	for reg := range k.R {
		k.R[reg] = r.Intn(70000) - 1000
	}
	return k
}

// P7.1, P7.2: random processors against the text of the promises.
func TestModel(t *testing.T) {
	r := rand.New(rand.NewSource(7))
	m := randomMemory(r)
	other := *m
	for range 3000 {
		c, k := randomCpu(r), randomCore(r)
		for range 4 {
			irq := r.Intn(2) == 0
			want, bus := modelCycle(c, k, irq, &other)
			got, b := whole.Cycle(c, k, irq, m)
			if got != want || b != bus {
				t.Fatalf("Cycle of %v: %v, %v, not %v, %v", k, got, b, want, bus)
			}
			want, list := modelRun(c, got, &other)
			next, l := whole.Run(c, got, m)
			if next != want || !slices.Equal(l, list) {
				t.Fatalf("Run of %v: %v, %v, not %v, %v", got, next, l, want, list)
			}
			k = next
		}
	}
	if *m != other {
		t.Error("the memories differ")
	}
}

// P7.3, P7.4: no instruction takes more or fewer cycles than Times tells, or changes a register that Touches does not tell.
func TestTellsOfRuns(t *testing.T) {
	r := rand.New(rand.NewSource(8))
	m := randomMemory(r)
	shorter := 0
	for range 2000 {
		c := randomCpu(r)
		for _, x := range c.Instrs {
			k := idle(randomCore(r).R)
			for reg := range k.R {
				k.R[reg] &= 255
			}
			m[k.R[api.RPC]] = x.Op
			after, l := whole.Run(c, k, m)
			least, most := whole.Times(x)
			if len(l) < least || len(l) > most {
				t.Fatalf("%v takes %d cycles, not %d to %d", x, len(l), least, most)
			}
			if len(l) < most {
				shorter++
			}
			for reg, n := range after.R {
				if n != k.R[reg] && reg != api.RPC && !whole.Touches(x, reg) {
					t.Fatalf("%v changes %s", x, regNames[reg])
				}
			}
		}
	}
	if shorter == 0 {
		t.Error("no instruction has ended early")
	}
}
