package std_test

import (
	"math/rand"
	"testing"

	"bakelite/api"
	"bakelite/core"
	"bakelite/std"
	"bakelite/table"
)

// seen returns the visible registers of a processor.
func seen(k api.Core) visible {
	return visible{byte(k.R[api.RA]), byte(k.R[api.RX]), byte(k.R[api.RY]), byte(k.R[api.RS]), byte(k.R[api.RP]), uint16(k.R[api.RPC])}
}

// started is a processor between instructions, whose scratch registers are in disorder.
func started(v visible) api.Core {
	return api.Core{Op: api.OpIdle, R: api.Regs{
		api.RA: int(v.a), api.RX: int(v.x), api.RY: int(v.y), api.RS: int(v.s), api.RP: int(v.flags), api.RPC: int(v.pc), api.RT: 0xA5, api.RU: 0x5A, api.RAD: 0xC33C,
	}}
}

// run does cycles until the processor is between instructions or jams, and counts them.
func run(c api.Cpu, k api.Core, irq bool, m *memory) (api.Core, int) {
	for n := 1; ; n++ {
		var b api.Bus
		k, b = core.Ask(c, k, irq)
		if b.Do == api.BRead {
			b.Data = int(m[b.Addr])
		}
		if b.Do == api.BWrite {
			m[b.Addr] = byte(b.Data)
		}
		k = core.Tell(c, k, b.Data)
		if k.Op == api.OpIdle || k.Op == api.OpJam || n > 20 {
			return k, n
		}
	}
}

// bytes are the ones near which something goes around or changes its sign.
var bytes = []byte{0, 1, 2, 127, 128, 129, 254, 255}

func anyByte(r *rand.Rand) byte {
	if r.Intn(2) == 0 {
		return bytes[r.Intn(len(bytes))]
	}
	return byte(r.Intn(256))
}

// anyVisible returns registers, with PC anywhere, but often near the end of the memory.
func anyVisible(r *rand.Rand) visible {
	v := visible{anyByte(r), anyByte(r), anyByte(r), anyByte(r), anyByte(r), uint16(r.Intn(65536))}
	if r.Intn(4) == 0 {
		v.pc = uint16(65535 - r.Intn(4))
	}
	return v
}

// P6.2, P6.3: every instruction does what its name says and takes as many cycles as the chapter lists, with ordinary and extreme numbers.
func TestInstructions(t *testing.T) {
	r := rand.New(rand.NewSource(6))
	c := std.Cpu()
	m, other := new(memory), new(memory)
	for _, x := range told().Instrs {
		for range 100 {
			for range 600 {
				m[r.Intn(65536)] = anyByte(r)
			}
			for at := range 512 {
				m[at] = anyByte(r)
			}
			v := anyVisible(r)
			m[v.pc] = byte(x.Op)
			m[v.pc+1] = anyByte(r)
			*other = *m
			want := model{v, other}
			cycles := want.length(x.Name, x.Mode)
			want.next()
			want.do(x.Name, x.Mode)
			k, n := run(c, started(v), false, m)
			if seen(k) != want.visible || n != cycles || k.Op != api.OpIdle || *m != *other {
				t.Fatalf("%s with mode %d of %+v: %+v after %d cycles, not %+v after %d; the same memory: %v", x.Name, x.Mode, v, seen(k), n, want.visible, cycles, *m == *other)
			}
		}
	}
}

// P6.1: every other byte is no instruction.
func TestOtherBytes(t *testing.T) {
	c := std.Cpu()
	for op := range 256 {
		_, ok := table.Find(c, op)
		if want := 1 <= op && op <= 92; ok != want {
			t.Errorf("byte %d: %v", op, ok)
		}
	}
	for _, op := range []byte{0, 93, 255} {
		m := new(memory)
		m[1000] = op
		if k, n := run(c, started(visible{pc: 1000}), false, m); k.Op != api.OpJam || n != 1 {
			t.Errorf("byte %d: %v after %d cycles", op, k, n)
		}
	}
}

// load puts bytes into a new memory.
func load(at int, l ...byte) *memory {
	m := new(memory)
	copy(m[at:], l)
	return m
}

// P6.2: where the addresses go around. With X the page of the first 256 bytes is not left; the address for MInd at 255 has its second byte at 256; sums go around at 65536.
func TestAddressesGoAround(t *testing.T) {
	c := std.Cpu()
	for _, x := range []struct {
		name  string
		mode  int
		code  []byte
		bytes map[int]byte
	}{
		{"lda", api.MZeroX, []byte{250}, map[int]byte{4: 77, 260: 1}},
		{"lda", api.MAbsX, []byte{250, 255}, map[int]byte{4: 77, 65284: 1}},
		{"lda", api.MAbsY, []byte{246, 255}, map[int]byte{10: 77, 65290: 1}},
		{"lda", api.MInd, []byte{255}, map[int]byte{255: 1, 256: 2, 0: 3, 533: 77, 789: 1}},
		{"lda", api.MInd, []byte{20}, map[int]byte{20: 250, 21: 255, 14: 77}},
	} {
		y, _ := table.Named(c, x.name, x.mode)
		m := load(1000, append([]byte{byte(y.Op)}, x.code...)...)
		for at, n := range x.bytes {
			m[at] = n
		}
		if k, _ := run(c, started(visible{x: 10, y: 20, pc: 1000}), false, m); k.R[api.RA] != 77 {
			t.Errorf("%s with mode %d and %v: A is %d", x.name, x.mode, x.code, k.R[api.RA])
		}
	}
}

// P6.4: a reset takes two cycles, makes S 255 and reads PC, and leaves interrupts masked as core.New does.
func TestReset(t *testing.T) {
	k, n := run(std.Cpu(), core.New(), true, load(65532, 0x34, 0x12))
	want := api.Core{Op: api.OpIdle, R: api.Regs{api.RS: 255, api.RP: api.FI, api.RT: 0x34, api.RU: 0x12, api.RPC: 0x1234}}
	if k != want || n != 2 {
		t.Errorf("behind the reset: %v after %d cycles", k, n)
	}
}

// P6.4: the answers push PC and the flags, mask interrupts, and read PC; rti undoes this.
func TestInterrupts(t *testing.T) {
	c := std.Cpu()
	for _, s := range []byte{255, 1, 0} {
		for _, x := range []struct {
			k   api.Core
			irq bool
			pc  uint16
		}{
			{started(visible{s: s, flags: 0xFB, pc: 0xABCD}), true, 0x5678},
			{core.Nmi(started(visible{s: s, flags: 0xFB, pc: 0xABCD})), true, 0x1234},
			{core.Nmi(started(visible{s: s, flags: 0xFB, pc: 0xABCD})), false, 0x1234},
		} {
			m := load(65530, 0x34, 0x12, 0, 0, 0x78, 0x56)
			k, n := run(c, x.k, x.irq, m)
			if want := (visible{s: s - 3, flags: 0xFF, pc: x.pc}); seen(k) != want || k.Nmi || n != 6 {
				t.Errorf("interrupt of %v: %v after %d cycles", x.k, k, n)
			}
			for at, want := range []byte{0xAB, 0xCD, 0xFB} {
				if got := m[256+int(s-byte(at))]; got != want {
					t.Errorf("interrupt of %v: byte %d of the stack is %d, not %d", x.k, at, got, want)
				}
			}
			m[x.pc] = 86
			if k, n = run(c, k, true, m); seen(k) != seen(x.k) || n != 4 {
				t.Errorf("rti: %v after %d cycles", k, n)
			}
		}
	}
	masked := started(visible{flags: api.FI, pc: 1000})
	if k, n := run(c, masked, true, load(1000, 78)); k.R[api.RPC] != 1001 || n != 2 {
		t.Errorf("a masked interrupt: %v after %d cycles", k, n)
	}
}
