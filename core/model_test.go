package core_test

import (
	"math/rand"
	"testing"

	"bakelite/alu"
	"bakelite/api"
	"bakelite/core"
	"bakelite/table"
)

// number is a value of a register as large as its size permits.
func number(reg, n int) int {
	size := 256
	if reg == api.RPC || reg == api.RAD {
		size = 65536
	}
	return (n%size + size) % size
}

// now is the current cycle, as the text before P5.1 says.
func now(c api.Cpu, k api.Core) []api.Cycle {
	l := map[int][]api.Cycle{256: c.Irq, 257: c.Nmi, 258: c.Res}[k.Op]
	if k.Op >= 0 && k.Op < 256 {
		x, _ := table.Find(c, k.Op)
		l = x.Cycles
	}
	if k.At < 0 || k.At >= len(l) {
		return nil
	}
	return l[k.At:]
}

// modelAsk is P5.2 and P5.3: first the bus with the registers as they were, then what moves.
func modelAsk(c api.Cpu, k api.Core, irq bool) (api.Core, api.Bus) {
	k.R = alu.Fit(k.R)
	if k.Op == -1 {
		if k.Nmi && len(c.Nmi) != 0 {
			k.Nmi, k.Op, k.At = false, 257, 0
		} else if irq && k.R[api.RP]/4%2 == 0 && len(c.Irq) != 0 {
			k.Op, k.At = 256, 0
		} else {
			b := api.Bus{Do: 1, Addr: k.R[api.RPC]}
			k.R[api.RPC] = number(api.RPC, k.R[api.RPC]+1)
			return k, b
		}
	}
	l := now(c, k)
	if len(l) == 0 || l[0].Bus == 0 {
		return k, api.Bus{}
	}
	x, s, pc, ad := l[0], k.R[api.RS], k.R[api.RPC], k.R[api.RAD]
	b := api.Bus{Do: x.Bus, Addr: map[int]int{
		0: pc, 1: pc, 2: ad, 3: (ad + 1) % 65536, 4: 256 + s, 5: 256 + (s+1)%256, 6: 65534, 7: 65535, 8: 65530, 9: 65531, 10: 65532, 11: 65533,
	}[x.At]}
	if x.Bus == 2 && x.Reg >= 0 && x.Reg < 9 {
		b.Data = k.R[x.Reg] % 256
	}
	k.R[api.RPC] = number(api.RPC, pc+map[int]int{0: 1}[x.At])
	k.R[api.RS] = number(api.RS, s+map[int]int{4: -1, 5: 1}[x.At])
	return k, b
}

// modelTell is P5.4.
func modelTell(c api.Cpu, k api.Core, data int) api.Core {
	k.R = alu.Fit(k.R)
	data = number(api.RA, data)
	if k.Op == -1 {
		x, ok := table.Find(c, data)
		k.At = 0
		if !ok {
			k.Op = 259
		} else if len(x.Cycles) != 0 {
			k.Op = data
		}
		return k
	}
	l := now(c, k)
	ends := len(l) <= 1
	if len(l) > 0 {
		if l[0].Bus == 1 && l[0].Reg >= 0 && l[0].Reg < 9 {
			k.R[l[0].Reg] = data
		}
		k.At++
		for n, stop := 0, false; n < len(l[0].Steps) && !stop; n++ {
			k.R, stop = alu.Do(l[0].Steps[n], k.R)
			ends = ends || stop
		}
	}
	if ends && k.Op != 259 {
		k.Op, k.At = -1, 0
	}
	return k
}

// randomCycles are up to three cycles, most of them with numbers that are permitted.
func randomCycles(r *rand.Rand) []api.Cycle {
	var l []api.Cycle
	for range r.Intn(4) {
		x := api.Cycle{Bus: r.Intn(4), At: r.Intn(14) - 1, Reg: r.Intn(11) - 1}
		for range r.Intn(4) {
			s := api.Step{Do: r.Intn(27) - 1, To: r.Intn(11) - 1, From: r.Intn(11) - 1, N: r.Intn(256)}
			if r.Intn(4) == 0 {
				s.Do, s.From = api.SIf, r.Intn(2)
			}
			x.Steps = append(x.Steps, s)
		}
		l = append(l, x)
	}
	return l
}

// randomCpu has instructions in no order, with few different bytes, and some numbers that are none.
func randomCpu(r *rand.Rand) api.Cpu {
	c := api.Cpu{Name: "random", Res: randomCycles(r), Irq: randomCycles(r), Nmi: randomCycles(r)}
	for range r.Intn(8) {
		c.Instrs = append(c.Instrs, api.Instr{Op: r.Intn(8), Cycles: randomCycles(r)})
	}
	if r.Intn(4) == 0 {
		c.Instrs = append(c.Instrs, api.Instr{Op: 250 + r.Intn(12), Cycles: randomCycles(r)}, api.Instr{Op: -r.Intn(4), Cycles: randomCycles(r)})
	}
	return c
}

// randomCore is a state of which the registers are often at the ends of what fits, or do not fit.
func randomCore(r *rand.Rand) api.Core {
	k := api.Core{Op: r.Intn(10) - 2, At: r.Intn(6) - 1, Nmi: r.Intn(2) == 0}
	if r.Intn(2) == 0 {
		k.Op = 250 + r.Intn(12)
	}
	for reg := range k.R {
		k.R[reg] = number(reg, r.Int())
		switch r.Intn(6) {
		case 0:
			k.R[reg] = -1
		case 1:
			k.R[reg] = r.Int() - r.Int()
		case 2:
			k.R[reg] = 0
		}
	}
	return k
}

// P5.2, P5.3, P5.4, Z1: random processors in random states, each for some cycles, against the model.
func TestModel(t *testing.T) {
	r := rand.New(rand.NewSource(5))
	for range 20000 {
		c, k := randomCpu(r), randomCore(r)
		for range 6 {
			irq, data := r.Intn(2) == 0, r.Intn(12)
			if r.Intn(4) == 0 {
				data = r.Int() - r.Int()
			}
			want, bus := modelAsk(c, k, irq)
			got, b := core.Ask(c, k, irq)
			if got != want || b != bus {
				t.Fatalf("Ask(%v, %v, %v): %v, %v, not %v, %v", c, k, irq, got, b, want, bus)
			}
			k = got
			want = modelTell(c, k, data)
			if got = core.Tell(c, k, data); got != want {
				t.Fatalf("Tell(%v, %v, %d): %v, not %v", c, k, data, got, want)
			}
			k = got
		}
	}
}
