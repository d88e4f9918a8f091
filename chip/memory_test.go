package chip_test

import (
	"math/rand"
	"slices"
	"testing"

	"bakelite/api"
	"bakelite/chip"
)

// ram, rom and bank are memories with some data.
func ram(size int, data ...byte) api.Chip {
	return api.Chip{Name: "memory", Kind: api.Ram, Size: size, Data: data}
}

func rom(size int, data ...byte) api.Chip {
	return api.Chip{Name: "memory", Kind: api.Rom, Size: size, Data: data}
}

func bank(size int, data ...byte) api.Chip {
	return api.Chip{Name: "memory", Kind: api.Bank, Size: size, Data: data}
}

// plain is a state with bytes alone.
func plain(mem ...byte) api.Dev {
	return api.Dev{Mem: mem}
}

// same reports whether two states have the same numbers and bytes.
func same(d, e api.Dev) bool {
	return slices.Equal(d.N, e.N) && slices.Equal(d.Mem, e.Mem)
}

// padded are bytes, as many as there are to be: the first ones, and zeros behind them.
func padded(b []byte, many int) []byte {
	l := make([]byte, many)
	copy(l, b)
	return l
}

// P14.1: the number of banks.
func TestBanks(t *testing.T) {
	for _, x := range []struct{ size, data, want int }{
		{9, 0, 1}, {9, 1, 1}, {9, 7, 1}, {9, 8, 1}, {9, 9, 2}, {9, 15, 2}, {9, 16, 2}, {9, 17, 3}, {9, 4096, 512},
		{2, 0, 1}, {2, 1, 1}, {2, 2, 2}, {2, 255, 255}, {2, 256, 256}, {2, 257, 257}, {2, 4096, 4096}, {3, 4096, 2048}, {3, 4095, 2048}, {3, 4094, 2047},
		{4096, 4095, 1}, {4096, 4096, 2}, {4097, 4096, 1}, {4097, 4097, 2},
		// a bank has at least 1 address, and at most 4096
		{1, 5, 5}, {0, 5, 5}, {-1, 5, 5}, {4098, 4096, 1}, {4098, 4097, 2}, {65536, 8192, 2}, {65536, 8193, 3}, {-1, 0, 1},
	} {
		if n := chip.Banks(bank(x.size, bytes(x.data)...)); n != x.want {
			t.Errorf("size %d, %d data: %d banks, not %d", x.size, x.data, n, x.want)
		}
	}
	for at, size := range extremes {
		want := 9
		if size > 0 {
			want = 1
		}
		if n := chip.Banks(bank(size, bytes(9)...)); n != want {
			t.Errorf("extreme %d: %d banks, not %d", at, n, want)
		}
	}
	// What the number of banks means does not hang on the kind.
	for kind := -1; kind <= api.NumKinds; kind++ {
		if n := chip.Banks(api.Chip{Kind: kind, Size: 9, Data: bytes(17)}); n != 3 {
			t.Errorf("kind %d: %d banks", kind, n)
		}
		if n := chip.Banks(api.Chip{Kind: kind}); n != 1 {
			t.Errorf("kind %d without data: %d banks", kind, n)
		}
	}
}

// The chapter's example: a Bank with the Size 9 and 16 Data has two banks.
func TestExample(t *testing.T) {
	if n := chip.Banks(bank(9, bytes(16)...)); n != 2 {
		t.Error(n)
	}
}

// newSizes are how many bytes the first states of memories have.
var newSizes = []struct {
	c    api.Chip
	want int
}{
	{ram(1), 1}, {ram(4, 1, 2), 4}, {ram(4, 1, 2, 3, 4), 4}, {ram(4096, bytes(4096)...), 4096},
	{rom(1), 1}, {rom(4, 1, 2), 4}, {rom(4, 1, 2, 3, 4), 4}, {rom(4096, bytes(100)...), 4096},
	{bank(2), 1}, {bank(2, 1, 2, 3), 3}, {bank(9), 8}, {bank(9, bytes(8)...), 8}, {bank(9, bytes(9)...), 16}, {bank(9, bytes(16)...), 16}, {bank(9, bytes(17)...), 24}, {bank(4096, bytes(4096)...), 8190},
	// not valid
	{ram(0), 0}, {ram(0, 1, 2), 0}, {ram(-1, 1, 2), 0}, {ram(4, 1, 2, 3, 4, 5), 4}, {ram(65535), 65535}, {ram(65536, 1), 65536}, {ram(65537, 1), 65536}, {ram(1 << 40), 65536},
	{rom(0), 0}, {rom(0, 1, 2), 0}, {rom(-1, 1, 2), 0}, {rom(4, 1, 2, 3, 4, 5), 4}, {rom(65535), 65535}, {rom(65536, 1), 65536}, {rom(65537, 1), 65536}, {rom(1 << 40), 65536},
	{bank(1), 1}, {bank(0, 1, 2), 2}, {bank(-1, 1, 2, 3), 3}, {bank(4097, 1), 4096}, {bank(4098, 1), 4096}, {bank(1<<40, bytes(4097)...), 8192},
}

// P14.2
func TestNewMemories(t *testing.T) {
	for _, x := range newSizes {
		want := plain(padded(x.c.Data, x.want)...)
		if x.c.Kind == api.Bank {
			want.N = []int{0}
		}
		if d := chip.New(x.c); !same(d, want) {
			t.Errorf("kind %d, size %d, %d data: %d bytes, %v", x.c.Kind, x.c.Size, len(x.c.Data), len(d.Mem), d.N)
		}
	}
	for _, kind := range []int{api.Ram, api.Rom, api.Bank} {
		for _, size := range extremes {
			d := chip.New(api.Chip{Kind: kind, Size: size, Data: bytes(3)})
			want := 0
			switch {
			case kind == api.Bank && size > 0:
				want = 4096
			case kind == api.Bank:
				want = 3
			case size > 0:
				want = 65536
			}
			if !slices.Equal(d.Mem, padded(bytes(3), want)) {
				t.Errorf("kind %d, size %d: %d bytes", kind, size, len(d.Mem))
			}
		}
	}
}

// quiet are functions that change nothing but the form of the state of a memory whose addresses are below 100.
var quiet = map[string]func(c api.Chip, d api.Dev) api.Dev{
	"Read":            func(c api.Chip, d api.Dev) api.Dev { d, _ = chip.Read(c, d, 0); return d },
	"Read of 1":       func(c api.Chip, d api.Dev) api.Dev { d, _ = chip.Read(c, d, 1); return d },
	"Read elsewhere":  func(c api.Chip, d api.Dev) api.Dev { d, _ = chip.Read(c, d, 100); return d },
	"Read of -1":      func(c api.Chip, d api.Dev) api.Dev { d, _ = chip.Read(c, d, -1); return d },
	"Write elsewhere": func(c api.Chip, d api.Dev) api.Dev { return chip.Write(c, d, 100, 9) },
	"Write of -1":     func(c api.Chip, d api.Dev) api.Dev { return chip.Write(c, d, -1, 9) },
	"Tick":            chip.Tick,
	"Skip":            func(c api.Chip, d api.Dev) api.Dev { return chip.Skip(c, d, 1000) },
	"no Skip":         func(c api.Chip, d api.Dev) api.Dev { return chip.Skip(c, d, 0) },
	"back":            func(c api.Chip, d api.Dev) api.Dev { return chip.Skip(c, d, -1) },
	"In":              func(c api.Chip, d api.Dev) api.Dev { return chip.In(c, d, 77) },
}

// P14.2: missing bytes are 0, further ones are left out, and so are numbers, but for the bank, which is taken modulo Banks.
func TestFormOfMemories(t *testing.T) {
	three := bank(4, bytes(8)...)
	for _, x := range []struct {
		c    api.Chip
		d    api.Dev
		want api.Dev
	}{
		{ram(4, 9, 9, 9, 9), api.Dev{}, plain(0, 0, 0, 0)},
		{ram(4, 9, 9, 9, 9), plain(1, 2), plain(1, 2, 0, 0)},
		{ram(4), plain(1, 2, 3, 4), plain(1, 2, 3, 4)},
		{ram(4), plain(1, 2, 3, 4, 5), plain(1, 2, 3, 4)},
		{ram(4), api.Dev{N: []int{1, 2}, Mem: []byte{1, 2, 3, 4}}, plain(1, 2, 3, 4)},
		{ram(0), plain(1, 2), plain()},
		{ram(-5), api.Dev{N: []int{1}, Mem: []byte{1, 2}}, plain()},
		{rom(4, 9, 9, 9, 9), api.Dev{}, plain(0, 0, 0, 0)},
		{rom(4, 9, 9, 9, 9), plain(1, 2), plain(1, 2, 0, 0)},
		{rom(4), api.Dev{N: []int{3}, Mem: []byte{1, 2, 3, 4, 5}}, plain(1, 2, 3, 4)},
		{three, api.Dev{}, api.Dev{N: []int{0}, Mem: make([]byte, 9)}},
		{three, plain(1, 2), api.Dev{N: []int{0}, Mem: padded([]byte{1, 2}, 9)}},
		{three, api.Dev{N: []int{2}, Mem: bytes(9)}, api.Dev{N: []int{2}, Mem: bytes(9)}},
		{three, api.Dev{N: []int{2, 5, 6}, Mem: bytes(12)}, api.Dev{N: []int{2}, Mem: bytes(9)}},
		{three, api.Dev{N: []int{3}}, api.Dev{N: []int{0}, Mem: make([]byte, 9)}},
		{three, api.Dev{N: []int{257}}, api.Dev{N: []int{2}, Mem: make([]byte, 9)}},
		{three, api.Dev{N: []int{-1}}, api.Dev{N: []int{2}, Mem: make([]byte, 9)}},
		{three, api.Dev{N: []int{-3}}, api.Dev{N: []int{0}, Mem: make([]byte, 9)}},
		{three, api.Dev{N: []int{-5}}, api.Dev{N: []int{1}, Mem: make([]byte, 9)}},
		{three, api.Dev{N: []int{1<<63 - 1}}, api.Dev{N: []int{1}, Mem: make([]byte, 9)}},
		{three, api.Dev{N: []int{-1 << 63}}, api.Dev{N: []int{1}, Mem: make([]byte, 9)}},
		{bank(4), api.Dev{N: []int{7}, Mem: bytes(9)}, api.Dev{N: []int{0}, Mem: bytes(3)}},
		{bank(0, 1, 2), api.Dev{N: []int{7}, Mem: bytes(9)}, api.Dev{N: []int{1}, Mem: bytes(2)}},
		{bank(2, bytes(500)...), api.Dev{N: []int{499}, Mem: bytes(500)}, api.Dev{N: []int{499}, Mem: bytes(500)}},
		{bank(2, bytes(500)...), api.Dev{N: []int{1300}, Mem: bytes(500)}, api.Dev{N: []int{300}, Mem: bytes(500)}},
	} {
		for name, f := range quiet {
			if d := f(x.c, x.d); !same(d, x.want) {
				t.Errorf("%s of %v, kind %d: %v, not %v", name, x.d, x.c.Kind, d, x.want)
			}
		}
		if d := chip.Write(x.c, x.d, 2, 300); x.c.Kind == api.Ram && len(x.want.Mem) > 2 {
			want := plain(slices.Clone(x.want.Mem)...)
			if want.Mem[2] = 44; !same(d, want) {
				t.Errorf("Write into %v: %v", x.d, d)
			}
		}
	}
}

// written are numbers to write, and their lowest eight bits.
var written = []struct{ data, low int }{{0, 0}, {1, 1}, {170, 170}, {255, 255}, {256, 0}, {300, 44}, {-1, 255}, {-256, 0}, {-212, 44}, {-1 << 63, 0}, {1<<63 - 1, 255}, {-1<<63 + 9, 9}}

// P14.2: each address of a Ram and a Rom.
func TestPlainMemories(t *testing.T) {
	for _, size := range []int{1, 2, 7, 256, 4096} {
		start := plain(bytes(size)...)
		for at := range size {
			for kind := range 2 {
				c := api.Chip{Kind: kind, Size: size}
				if d, n := chip.Read(c, start, at); n != int(start.Mem[at]) || !same(d, start) {
					t.Fatalf("kind %d, size %d, address %d: %d", kind, size, at, n)
				}
				for k, x := range written {
					if size > 256 && k != at%len(written) {
						continue
					}
					want := plain(slices.Clone(start.Mem)...)
					if kind == api.Ram {
						want.Mem[at] = byte(x.low)
					}
					if d := chip.Write(c, start, at, x.data); !same(d, want) {
						t.Fatalf("kind %d, size %d, %d into address %d: %d", kind, size, x.data, at, d.Mem[at])
					}
				}
			}
		}
	}
}

// P14.2: addresses that there are not.
func TestNoAddress(t *testing.T) {
	for _, c := range []api.Chip{ram(7), rom(7), bank(8, bytes(21)...), ram(0), rom(-1), bank(4096), bank(5000), ram(70000)} {
		d := chip.New(c)
		for at := range d.Mem {
			d.Mem[at] = 99
		}
		first := len(d.Mem)
		if c.Kind == api.Bank {
			first = min(c.Size, 4097)
		}
		for _, at := range append([]int{-1, -2, -7, -8, -4096, first, first + 1, first + 7, 70000, 1 << 40}, extremes...) {
			if e, n := chip.Read(c, d, at); n != 0 || !same(e, d) {
				t.Errorf("kind %d, size %d, address %d: %d", c.Kind, c.Size, at, n)
			}
			if e := chip.Write(c, d, at, 1); !same(e, d) {
				t.Errorf("kind %d, size %d: 1 into address %d", c.Kind, c.Size, at)
			}
		}
		if first > 1 {
			if _, n := chip.Read(c, d, first-1); n != 99 {
				t.Errorf("kind %d, size %d, the last address: %d", c.Kind, c.Size, n)
			}
		}
	}
}

// P14.2: the register of a Bank.
func TestBankRegister(t *testing.T) {
	for _, x := range []struct{ many, data, want int }{
		{1, 0, 0}, {1, 1, 0}, {1, 255, 0}, {2, 1, 1}, {2, 2, 0}, {2, 3, 1}, {3, 2, 2}, {3, 3, 0}, {3, 255, 0}, {3, 256, 0}, {3, 257, 1}, {3, 258, 2}, {3, 259, 0},
		{3, -1, 0}, {3, -2, 2}, {3, -256, 0}, {7, -1, 3}, {7, 1<<63 - 1, 3}, {7, -1 << 63, 0},
		{255, 255, 0}, {256, 255, 255}, {257, 255, 255}, {257, 256, 0}, {257, 511, 255}, {4096, 256, 0}, {4096, 300, 44}, {4096, -1, 255},
	} {
		for _, size := range []int{2, 0, 5} {
			each := max(1, size-1)
			c := bank(size, bytes(x.many*each)...)
			before := api.Dev{N: []int{x.many - 1}, Mem: bytes(x.many * each)}
			d := chip.Write(c, before, 0, x.data)
			if !same(d, api.Dev{N: []int{x.want}, Mem: before.Mem}) {
				t.Errorf("%d into one of %d banks: %v", x.data, x.many, d.N)
			}
			if _, n := chip.Read(c, d, 0); n != x.want {
				t.Errorf("%d into one of %d banks: %d", x.data, x.many, n)
			}
		}
	}
	// It can be greater than 255.
	c := bank(2, bytes(4096)...)
	for _, n := range []int{0, 255, 256, 300, 4095} {
		d := api.Dev{N: []int{n}, Mem: bytes(4096)}
		if e, got := chip.Read(c, d, 0); got != n || !same(e, d) {
			t.Errorf("bank %d: %d", n, got)
		}
		if _, got := chip.Read(c, d, 1); got != int(d.Mem[n]) {
			t.Errorf("the byte of bank %d: %d", n, got)
		}
	}
}

// shelf is a Bank as the chapter tells it: banks with their bytes, of which there is one in the window.
type shelf struct {
	banks [][]byte
	now   int
}

// shelved is the first state of a Bank.
func shelved(c api.Chip) *shelf {
	s := &shelf{}
	for part := range slices.Chunk(c.Data, c.Size-1) {
		s.banks = append(s.banks, padded(part, c.Size-1))
	}
	if len(s.banks) == 0 {
		s.banks = [][]byte{make([]byte, c.Size-1)}
	}
	return s
}

// state is the state that a shelf stands for.
func (s *shelf) state() api.Dev {
	return api.Dev{N: []int{s.now}, Mem: slices.Concat(s.banks...)}
}

// P14.2: banks in long use.
func TestUseOfBanks(t *testing.T) {
	r := rand.New(rand.NewSource(142))
	for range 60 {
		size := 2 + r.Intn(12)
		c := bank(size, bytes(r.Intn(400))...)
		d, s := chip.New(c), shelved(c)
		for range 300 {
			at, data := r.Intn(size), r.Intn(256)
			if r.Intn(4) == 0 {
				at = 0
			}
			want := s.now
			if at > 0 {
				want = int(s.banks[s.now][at-1])
			}
			var n int
			if d, n = chip.Read(c, d, at); n != want {
				t.Fatalf("size %d, address %d: %d, not %d", size, at, n, want)
			}
			if r.Intn(2) == 0 {
				d = chip.Write(c, d, at, data+256*r.Intn(9)-1024)
				if at == 0 {
					s.now = data % len(s.banks)
				} else {
					s.banks[s.now][at-1] = byte(data)
				}
			}
			if !same(d, s.state()) {
				t.Fatalf("size %d: %v, not %v", size, d, s.state())
			}
		}
	}
}

// P14.3: memories show nothing and ask for nothing.
func TestQuietMemories(t *testing.T) {
	for _, c := range []api.Chip{ram(4, 1), rom(4, 1), bank(4, 1), ram(-1), bank(-1)} {
		for _, d := range []api.Dev{{}, chip.New(c), {N: []int{1, 2, 3, 4}, Mem: []byte{255, 255, 255, 255}}} {
			if chip.Next(c, d) != 100000 || chip.Irq(c, d) || chip.Out(c, d) != 0 {
				t.Errorf("kind %d, %v: %d, %v, %d", c.Kind, d, chip.Next(c, d), chip.Irq(c, d), chip.Out(c, d))
			}
		}
	}
}
