package alu_test

import (
	"math"
	"math/rand"
	"testing"

	"bakelite/alu"
	"bakelite/api"
)

// modulo is what is left of a division that rounds down.
func modulo(n, m int) int { return (n%m + m) % m }

// fitted is P4.1 word by word.
func fitted(r api.Regs) api.Regs {
	for reg := range r {
		if reg == api.RPC || reg == api.RAD {
			r[reg] = modulo(r[reg], 65536)
		} else {
			r[reg] = modulo(r[reg], 256)
		}
	}
	return r
}

// numbers are ordinary and extreme numbers in a register.
var numbers = []int{
	0, 1, 2, 5, 44, 100, 127, 128, 129, 200, 254, 255, 256, 257, 300, 32767, 32768, 65279, 65280, 65534, 65535, 65536, 65537, 1 << 32, 1 << 61, 1<<62 - 1, 1 << 62, math.MaxInt,
	-1, -2, -127, -128, -129, -255, -256, -257, -65535, -65536, -65537, -1 << 32, -1 << 62, math.MinInt + 1, math.MinInt,
}

// P4.1
func TestFit(t *testing.T) {
	for _, n := range numbers {
		for reg := range api.NumRegs {
			// The other registers hold numbers that fit, all of them different.
			r := api.Regs{1, 2, 3, 4, 5, 6, 7, 60000, 60001}
			r[reg] = n
			given := r
			if got := alu.Fit(r); got != fitted(r) {
				t.Errorf("Fit(%v): %v", r, got)
			}
			if r != given {
				t.Errorf("Fit changes its argument: %v", given)
			}
		}
	}
	for _, c := range []struct{ reg, n, want int }{
		{api.RA, 256, 0}, {api.RX, 257, 1}, {api.RY, -1, 255}, {api.RS, 511, 255}, {api.RP, -256, 0}, {api.RT, 65535, 255}, {api.RU, 1000, 232},
		{api.RPC, 65535, 65535}, {api.RPC, 65536, 0}, {api.RPC, -1, 65535}, {api.RAD, 65537, 1}, {api.RAD, 256, 256}, {api.RAD, -65536, 0},
	} {
		var r, want api.Regs
		r[c.reg], want[c.reg] = c.n, c.want
		if got := alu.Fit(r); got != want {
			t.Errorf("Fit(%v): %v, not %v", r, got, want)
		}
	}
}

// near is the number of a register that is nearest to n.
func near(n int) int {
	if n < 0 {
		return 0
	}
	if n > 8 {
		return 8
	}
	return n
}

// result is what a step computes: a number for To, if it puts one there, and what it makes of the flags.
type result struct {
	n, flags     int
	puts, leaves bool
}

// judged adds the flags Z and N of a number to those of which all but Z and N are taken over.
func judged(n, flags int) int {
	flags = flags &^ 130
	if n == 0 {
		flags += 2
	}
	if n >= 128 {
		flags += 128
	}
	return flags
}

// withCarry is the flags of a result of 8 bits, with this carry.
func withCarry(n int, carry bool, flags int) result {
	flags = judged(n, flags&^1)
	if carry {
		flags++
	}
	return result{n, flags, true, false}
}

// sums is the meaning of the steps that add and subtract, in plain numbers.
func sums(s api.Step, to, from, flags int) result {
	a, b, c := to%256, from%256, flags%2
	switch s.Do {
	case api.SAdd:
		return withCarry((a+b+c)%256, a+b+c > 255, flags)
	case api.SSub:
		return withCarry(modulo(a-b-(1-c), 256), a-b-(1-c) >= 0, flags)
	}
	compared := withCarry(modulo(a-b, 256), a >= b, flags)
	compared.puts = false
	return compared
}

// bitwise is the meaning of the steps that join bytes, bit by bit.
func bitwise(s api.Step, to, from, flags int) result {
	n := 0
	for weight := 1; weight < 256; weight *= 2 {
		ones := to/weight%2 + from/weight%2
		if s.Do == api.SAnd && ones == 2 || s.Do == api.SOr && ones > 0 || s.Do == api.SXor && ones == 1 {
			n += weight
		}
	}
	return result{n, judged(n, flags), true, false}
}

// shifts is the meaning of the steps that shift a byte by one place.
func shifts(s api.Step, to, flags int) result {
	a, c := to%256, flags%2
	switch s.Do {
	case api.SShl:
		return withCarry(a*2%256, a > 127, flags)
	case api.SRol:
		return withCarry((a*2+c)%256, a > 127, flags)
	case api.SShr:
		return withCarry(a/2, a%2 == 1, flags)
	}
	return withCarry(a/2+c*128, a%2 == 1, flags)
}

// moves is the meaning of the steps that move numbers and compute addresses. The result is taken modulo the width of To later.
func moves(s api.Step, to, from, flags int) result {
	n := to
	switch s.Do {
	case api.SMove:
		n = from
	case api.SLit:
		n = modulo(s.N, 65536)
	case api.SLow:
		n = to - to%256 + from%256
	case api.SHigh:
		n = to%256 + from%256*256
	case api.SGetLow:
		n = from % 256
	case api.SGetHigh:
		n = from / 256
	case api.SIndex:
		n = to + from%256
	case api.SRel:
		n = to + from%256
		if from%256 >= 128 {
			n -= 256
		}
	}
	return result{n, flags, true, false}
}

// counts is the meaning of the steps that count.
func counts(s api.Step, to int, wide bool, flags int) result {
	n := to + 1
	if s.Do == api.SDec {
		n = to - 1
	}
	if wide {
		return result{n, flags, true, false}
	}
	return result{n, judged(modulo(n, 256), flags), true, false}
}

// meaning is P4.2 in plain numbers, for registers that fit.
func meaning(s api.Step, r api.Regs) result {
	reg := near(s.To)
	to, from, flags, n := r[reg], r[near(s.From)], r[api.RP], modulo(s.N, 256)
	switch s.Do {
	case api.SMove, api.SLit, api.SLow, api.SHigh, api.SGetLow, api.SGetHigh, api.SIndex, api.SRel:
		return moves(s, to, from, flags)
	case api.SAdd, api.SSub, api.SCmp:
		return sums(s, to, from, flags)
	case api.SAnd, api.SOr, api.SXor:
		return bitwise(s, to, from, flags)
	case api.SShl, api.SShr, api.SRol, api.SRor:
		return shifts(s, to, flags)
	case api.SInc, api.SDec:
		return counts(s, to, reg == 7 || reg == 8, flags)
	case api.SNZ:
		return result{flags: judged(to%256, flags)}
	case api.SSet:
		return result{flags: flags | n}
	case api.SClr:
		return result{flags: flags - flags&n}
	case api.SIf:
		some := flags&n > 0
		return result{flags: flags, leaves: !(some && s.From == 1 || !some && s.From != 1)}
	}
	return result{flags: flags}
}

// plain does a step by its meaning.
func plain(s api.Step, r api.Regs) (api.Regs, bool) {
	r = fitted(r)
	out := meaning(s, r)
	r[api.RP] = out.flags
	if out.puts {
		r[near(s.To)] = out.n
	}
	return fitted(r), out.leaves
}

func check(t *testing.T, s api.Step, r api.Regs) {
	given := r
	want, ends := plain(s, r)
	got, end := alu.Do(s, r)
	if got != want || end != ends {
		t.Fatalf("Do(%+v, %v): %v, %v, not %v, %v", s, given, got, end, want, ends)
	}
	if again, end := alu.Do(s, r); r != given || again != got || end != ends {
		t.Fatalf("Do(%+v, %v) again: %v, %v", s, given, again, end)
	}
}

// P4.2: each kind of step with all pairs of bytes in A and X, and all flags that matter.
func TestBytes(t *testing.T) {
	for do := range api.NumSteps {
		for a := range 256 {
			for b := range 256 {
				for _, p := range []int{0, 1, 2, 128, 131, 124, 255} {
					check(t, api.Step{Do: do, To: api.RA, From: api.RX, N: b}, api.Regs{a, b, 3, 4, p, 6, 7, 1000, 2000})
				}
			}
		}
	}
}

// P4.2: each kind of step with all pairs of registers, the same one twice and the flags among them, and with numbers that are nearest to registers.
func TestRegisters(t *testing.T) {
	registers := []int{math.MinInt, -1, 0, 1, 2, 3, 4, 5, 6, 7, 8, 9, 260, math.MaxInt}
	random := rand.New(rand.NewSource(4))
	for do := -1; do <= api.NumSteps; do++ {
		for _, to := range registers {
			for _, from := range registers {
				for range 60 {
					check(t, api.Step{Do: do, To: to, From: from, N: pick(random)}, anyRegs(random))
				}
			}
		}
	}
}

// pick returns one of the numbers above, or any number.
func pick(random *rand.Rand) int {
	switch random.Intn(3) {
	case 0:
		return numbers[random.Intn(len(numbers))]
	case 1:
		return random.Intn(65536)
	}
	return int(random.Uint64())
}

func anyRegs(random *rand.Rand) api.Regs {
	var r api.Regs
	for reg := range r {
		r[reg] = pick(random)
	}
	return r
}

// P4.2: addresses, around the limits of their bytes and of 16 bits.
func TestAddresses(t *testing.T) {
	addresses := []int{0, 1, 127, 128, 129, 254, 255, 256, 257, 4660, 32767, 32768, 65279, 65280, 65407, 65408, 65534, 65535}
	for _, do := range []int{api.SMove, api.SLit, api.SInc, api.SDec, api.SLow, api.SHigh, api.SGetLow, api.SGetHigh, api.SIndex, api.SRel} {
		for _, address := range addresses {
			for b := range 256 {
				r := api.Regs{api.RT: b, api.RP: 131, api.RPC: address, api.RAD: 65535 - address}
				for _, reg := range []int{api.RPC, api.RAD} {
					check(t, api.Step{Do: do, To: reg, From: api.RT}, r)
					check(t, api.Step{Do: do, To: api.RT, From: reg}, r)
					check(t, api.Step{Do: do, To: reg, From: api.RPC, N: address + b}, r)
				}
			}
		}
	}
}

// P4.2: numbers that are no step do nothing, except that the registers fit.
func TestNoStep(t *testing.T) {
	for _, do := range []int{api.SNop, -1, api.NumSteps, 26, 256, math.MinInt, math.MaxInt} {
		r, end := alu.Do(api.Step{Do: do, To: 4, From: 5, N: 255}, api.Regs{257, -1, 2, 3, 260, 5, 6, 65537, -1})
		if r != (api.Regs{1, 255, 2, 3, 4, 5, 6, 1, 65535}) || end {
			t.Errorf("Do %d: %v, %v", do, r, end)
		}
	}
}

// P4.2: the examples and edges that one can read.
func TestExamples(t *testing.T) {
	const c, z, i, n = api.FC, api.FZ, api.FI, api.FN
	for at, x := range []struct {
		s       api.Step
		r, want api.Regs
	}{
		{api.Step{Do: api.SAdd, To: api.RA, From: api.RX}, api.Regs{200, 100}, api.Regs{44, 100, api.RP: c}},
		{api.Step{Do: api.SAdd, To: api.RA, From: api.RA}, api.Regs{128, api.RP: i | n}, api.Regs{0, api.RP: c | z | i}},
		{api.Step{Do: api.SSub, To: api.RA, From: api.RX}, api.Regs{3, 5, api.RP: c}, api.Regs{254, 5, api.RP: n}},
		{api.Step{Do: api.SCmp, To: api.RA, From: api.RX}, api.Regs{5, 5, api.RP: n}, api.Regs{5, 5, api.RP: c | z}},
		// A result in the flags replaces the flags that it has.
		{api.Step{Do: api.SAdd, To: api.RP, From: api.RX}, api.Regs{0, 255, api.RP: 1}, api.Regs{0, 255, api.RP: 1}},
		{api.Step{Do: api.SAnd, To: api.RP, From: api.RX}, api.Regs{0, 8, api.RP: 255}, api.Regs{0, 8, api.RP: 8}},
		{api.Step{Do: api.SInc, To: api.RP}, api.Regs{api.RP: 255}, api.Regs{api.RP: 0}},
		{api.Step{Do: api.SShl, To: api.RP}, api.Regs{api.RP: 128}, api.Regs{api.RP: 0}},
		// A comparison and the flags of a number put no result there.
		{api.Step{Do: api.SCmp, To: api.RP, From: api.RX}, api.Regs{0, 9, api.RP: 8}, api.Regs{0, 9, api.RP: 8 | n}},
		{api.Step{Do: api.SNZ, To: api.RP}, api.Regs{}, api.Regs{api.RP: z}},
		// Wide registers: bytes of their own, and results of 8 bits.
		{api.Step{Do: api.SNZ, To: api.RAD}, api.Regs{api.RAD: 256}, api.Regs{api.RP: z, api.RAD: 256}},
		{api.Step{Do: api.SAdd, To: api.RPC, From: api.RAD}, api.Regs{api.RPC: 0x1280, api.RAD: 0x3481}, api.Regs{api.RP: c, api.RPC: 1, api.RAD: 0x3481}},
		{api.Step{Do: api.SShr, To: api.RAD}, api.Regs{api.RAD: 0x102}, api.Regs{api.RAD: 1}},
		{api.Step{Do: api.SHigh, To: api.RA, From: api.RX}, api.Regs{7, 9}, api.Regs{7, 9}},
		{api.Step{Do: api.SDec, To: api.RPC}, api.Regs{api.RP: z}, api.Regs{api.RP: z, api.RPC: 65535}},
		{api.Step{Do: api.SIndex, To: api.RA, From: api.RX}, api.Regs{200, 100}, api.Regs{44, 100}},
		{api.Step{Do: api.SRel, To: api.RAD, From: api.RX}, api.Regs{1: 253, api.RAD: 2}, api.Regs{1: 253, api.RAD: 65535}},
		// Numbers beyond the registers, and of more than one byte.
		{api.Step{Do: api.SMove, To: -9, From: 99}, api.Regs{api.RAD: 0x1234}, api.Regs{0x34, api.RAD: 0x1234}},
		{api.Step{Do: api.SSet, N: 256 + 8}, api.Regs{api.RP: c}, api.Regs{api.RP: c | 8}},
		{api.Step{Do: api.SClr, N: -256}, api.Regs{api.RP: 255}, api.Regs{api.RP: 255}},
		{api.Step{Do: api.SLit, To: api.RAD, N: -1}, api.Regs{}, api.Regs{api.RAD: 65535}},
	} {
		if r, end := alu.Do(x.s, x.r); r != x.want || end {
			t.Errorf("example %d: %v, %v, not %v", at, r, end, x.want)
		}
	}
}

// P4.2: when an instruction ends.
func TestIf(t *testing.T) {
	for _, c := range []struct {
		from, n, p int
		end        bool
	}{
		{1, api.FZ, api.FZ, false}, {1, api.FZ, 0, true}, {1, api.FZ, 253, true}, {1, 255, 64, false}, {1, 0, 255, true}, {1, 256, 255, true},
		{0, api.FZ, api.FZ, true}, {0, api.FZ, 0, false}, {0, api.FZ, 253, false}, {0, 255, 64, true}, {0, 0, 255, false}, {0, 256, 255, false},
		{2, api.FC, api.FC, true}, {2, api.FC, 0, false}, {-1, api.FC, api.FC, true}, {-1, api.FC, 0, false}, {257, api.FC, api.FC, true}, {math.MaxInt, api.FC, 0, false},
	} {
		r := api.Regs{1, 2, 3, 4, c.p, 5, 6, 7, 8}
		if got, end := alu.Do(api.Step{Do: api.SIf, To: 4, From: c.from, N: c.n}, r); got != r || end != c.end {
			t.Errorf("%+v: %v, %v", c, got, end)
		}
	}
}
