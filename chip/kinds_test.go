package chip_test

import (
	"math/rand"
	"slices"
	"testing"

	"bakelite/api"
	"bakelite/chip"
	"bakelite/drive"
	"bakelite/port"
	"bakelite/serial"
	"bakelite/sound"
	"bakelite/timer"
	"bakelite/video"
)

// part is what the package of a kind does. What it does not have is nil.
type part struct {
	kind  int
	first func(data []byte) api.Dev
	read  func(d api.Dev, at int) (api.Dev, int)
	write func(d api.Dev, at, data int) api.Dev
	skip  func(d api.Dev, k int) api.Dev
	next  func(d api.Dev) int
	irq   func(d api.Dev) bool
	out   func(d api.Dev) int
	in    func(d api.Dev, k int) api.Dev
}

// without makes of a function for the first state one that has no data.
func without(first func() api.Dev) func(data []byte) api.Dev {
	return func([]byte) api.Dev { return first() }
}

// parts are all kinds that are no memories.
var parts = []part{
	{api.Timer, without(timer.New), timer.Read, timer.Write, timer.Skip, timer.Next, timer.Irq, nil, nil},
	{api.Port, without(port.New), port.Read, port.Write, nil, nil, nil, port.Out, port.In},
	{api.Serial, without(serial.New), serial.Read, serial.Write, serial.Skip, serial.Next, serial.Irq, serial.Out, serial.In},
	{api.Video, without(video.New), video.Read, video.Write, video.Skip, video.Next, nil, video.Out, nil},
	{api.Sound, without(sound.New), sound.Read, sound.Write, sound.Skip, sound.Next, nil, sound.Out, nil},
	{api.Drive, drive.New, drive.Read, drive.Write, drive.Skip, drive.Next, drive.Irq, drive.Out, drive.Change},
}

// form is a state in its form: no package has the register -1.
func (p part) form(d api.Dev) api.Dev {
	d, _ = p.read(d, -1)
	return d
}

// random is a state with numbers and bytes near and far, sometimes too few or too many of them.
func random(r *rand.Rand) api.Dev {
	d := api.Dev{N: make([]int, r.Intn(15)), Mem: make([]byte, r.Intn(3)*r.Intn(600))}
	for at := range d.N {
		if d.N[at] = r.Intn(4); r.Intn(3) == 0 {
			d.N[at] = r.Intn(70000)
		}
		if r.Intn(6) == 0 {
			d.N[at] = int(r.Uint64())
		}
	}
	r.Read(d.Mem)
	return d
}

// number is a number near or far.
func number(r *rand.Rand) int {
	switch r.Intn(6) {
	case 0:
		return extremes[r.Intn(len(extremes))]
	case 1:
		return r.Intn(20) - 10
	case 2:
		return int(r.Uint64())
	}
	return r.Intn(600)
}

// P14.3
func TestNewOfParts(t *testing.T) {
	for _, p := range parts {
		for _, many := range []int{0, 1, 255, 256, 600, 4096} {
			c := api.Chip{Kind: p.kind, Data: bytes(many)}
			if d := chip.New(c); !same(d, p.first(bytes(many))) {
				t.Errorf("kind %d, %d data: %v", p.kind, many, d)
			}
		}
	}
	if d := chip.New(sample(api.Drive)); !same(d, api.Dev{N: make([]int, 10), Mem: bytes(512)}) {
		t.Error("a drive with two disks:", d)
	}
}

// P14.3: what changes states.
func TestChangesOfParts(t *testing.T) {
	r := rand.New(rand.NewSource(143))
	for _, p := range parts {
		c := sample(p.kind)
		for range 2000 {
			d, at, k := random(r), r.Intn(40)-2, number(r)
			if r.Intn(20) == 0 {
				at = number(r)
			}
			want, n := p.read(d, at)
			if e, got := chip.Read(c, d, at); got != n || !same(e, want) {
				t.Fatalf("kind %d, Read of %d of %v: %d and %v, not %d and %v", p.kind, at, d, got, e, n, want)
			}
			if e, want := chip.Write(c, d, at, k), p.write(d, at, k); !same(e, want) {
				t.Fatalf("kind %d, %d into %d of %v: %v, not %v", p.kind, k, at, d, e, want)
			}
			skipped, ticked, got := p.form(d), p.form(d), p.form(d)
			if p.skip != nil {
				skipped, ticked = p.skip(d, k), p.skip(d, 1)
			}
			if p.in != nil {
				got = p.in(d, k)
			}
			if e := chip.Skip(c, d, k); !same(e, skipped) {
				t.Fatalf("kind %d, %d cycles of %v: %v, not %v", p.kind, k, d, e, skipped)
			}
			if e := chip.Tick(c, d); !same(e, ticked) {
				t.Fatalf("kind %d, a cycle of %v: %v, not %v", p.kind, d, e, ticked)
			}
			if e := chip.In(c, d, k); !same(e, got) {
				t.Fatalf("kind %d, In of %d for %v: %v, not %v", p.kind, k, d, e, got)
			}
		}
	}
}

// P14.3: what tells of states.
func TestTellsOfParts(t *testing.T) {
	r := rand.New(rand.NewSource(1430))
	for _, p := range parts {
		c := sample(p.kind)
		for range 2000 {
			d := random(r)
			next, irq, out := 100000, false, 0
			if p.next != nil {
				next = p.next(d)
			}
			if p.irq != nil {
				irq = p.irq(d)
			}
			if p.out != nil {
				out = p.out(d)
			}
			if chip.Next(c, d) != next || chip.Irq(c, d) != irq || chip.Out(c, d) != out {
				t.Fatalf("kind %d, %v: %d, %v, %d, not %d, %v, %d", p.kind, d, chip.Next(c, d), chip.Irq(c, d), chip.Out(c, d), next, irq, out)
			}
		}
	}
}

// P14.3: which kinds have what, on examples of which each would be told otherwise if it were missing.
func TestWhoHasWhat(t *testing.T) {
	for _, x := range []struct {
		d         api.Dev
		kind      int
		next, out int
		irq       bool
	}{
		{api.Dev{N: []int{7, 0, timer.Run | timer.Irqs, 1}}, api.Timer, 7, 0, true},
		{api.Dev{N: []int{1, 3, 2}}, api.Port, 100000, 2, false},
		{api.Dev{N: []int{0, 9, 5, 1, 0, 1, 1, 65}}, api.Serial, 8, 321, true},
		{api.Dev{N: []int{50}, Mem: []byte{5}}, api.Video, 13, 5, false},
		{api.Dev{N: []int{90, 6, 0, 40, 1, 0}}, api.Sound, 49, 6, false},
		{api.Dev{N: []int{1, 3, 3, 0, 0, 12, 0, 1, 0, 1}, Mem: bytes(256)}, api.Drive, 11, 3, true},
	} {
		c := sample(x.kind)
		if chip.Next(c, x.d) != x.next || chip.Out(c, x.d) != x.out || chip.Irq(c, x.d) != x.irq {
			t.Errorf("kind %d: %d, %d, %v", x.kind, chip.Next(c, x.d), chip.Out(c, x.d), chip.Irq(c, x.d))
		}
	}
	for kind, changes := range map[int]bool{api.Timer: false, api.Port: true, api.Serial: true, api.Video: false, api.Sound: false, api.Drive: true} {
		c := sample(kind)
		if d := chip.New(c); same(chip.In(c, d, 1), d) == changes {
			t.Errorf("kind %d: %v", kind, chip.In(c, d, 1))
		}
	}
}

// P14.3: a Port stays as it is however many cycles pass.
func TestSkipOfPort(t *testing.T) {
	c := sample(api.Port)
	for _, k := range append([]int{-1, 0, 1, 2, 1000}, extremes...) {
		for _, x := range []struct{ d, want api.Dev }{
			{api.Dev{N: []int{1, 2, 3}}, api.Dev{N: []int{1, 2, 3}}},
			{api.Dev{N: []int{257, -1}, Mem: bytes(5)}, api.Dev{N: []int{1, 255, 0}}},
			{api.Dev{N: []int{1, 2, 3, 4}}, api.Dev{N: []int{1, 2, 3}}},
		} {
			if d := chip.Skip(c, x.d, k); !same(d, x.want) {
				t.Errorf("%d cycles of %v: %v", k, x.d, d)
			}
			if d := chip.Tick(c, x.d); !same(d, x.want) {
				t.Errorf("a cycle of %v: %v", x.d, d)
			}
		}
	}
}

// P14.3: kinds that there are not.
func TestNoKind(t *testing.T) {
	for _, kind := range noKinds {
		c := api.Chip{Name: "a", Kind: kind, Size: 4, Data: bytes(4)}
		for _, d := range []api.Dev{{}, {N: []int{1, 2, 7, 1}}, {N: []int{1}, Mem: bytes(300)}} {
			for at := -1; at < 9; at++ {
				if e, n := chip.Read(c, d, at); n != 0 || !same(e, api.Dev{}) {
					t.Errorf("kind %d, Read of %d: %d, %v", kind, at, n, e)
				}
				if e := chip.Write(c, d, at, 1); !same(e, api.Dev{}) {
					t.Errorf("kind %d, Write of %d: %v", kind, at, e)
				}
			}
			for _, e := range []api.Dev{chip.New(c), chip.Tick(c, d), chip.Skip(c, d, 5), chip.Skip(c, d, -5), chip.In(c, d, 1)} {
				if !same(e, api.Dev{}) {
					t.Errorf("kind %d: %v", kind, e)
				}
			}
			if chip.Next(c, d) != 100000 || chip.Irq(c, d) || chip.Out(c, d) != 0 {
				t.Errorf("kind %d: %d, %v, %d", kind, chip.Next(c, d), chip.Irq(c, d), chip.Out(c, d))
			}
		}
	}
}

// uses are functions that use a chip in all ways, also those that return no state.
var uses = map[string]func(c api.Chip, d api.Dev) api.Dev{
	"New":     func(c api.Chip, d api.Dev) api.Dev { return chip.New(c) },
	"Read":    func(c api.Chip, d api.Dev) api.Dev { d, _ = chip.Read(c, d, 0); return d },
	"no Read": func(c api.Chip, d api.Dev) api.Dev { d, _ = chip.Read(c, d, -1); return d },
	"Write":   func(c api.Chip, d api.Dev) api.Dev { return chip.Write(c, d, 1, 77) },
	"bank":    func(c api.Chip, d api.Dev) api.Dev { return chip.Write(c, d, 0, 1) },
	"Tick":    chip.Tick,
	"Skip":    func(c api.Chip, d api.Dev) api.Dev { return chip.Skip(c, d, 100) },
	"In":      func(c api.Chip, d api.Dev) api.Dev { return chip.In(c, d, 1) },
	"numbers": func(c api.Chip, d api.Dev) api.Dev {
		irq := 0
		if chip.Irq(c, d) {
			irq = 1
		}
		return api.Dev{N: []int{chip.Next(c, d), irq, chip.Out(c, d), chip.Banks(c), int(chip.Check(c))}}
	},
}

// spoil overwrites a state, and what is behind it.
func spoil(d api.Dev) {
	n, mem := d.N[:cap(d.N)], d.Mem[:cap(d.Mem)]
	for at := range n {
		n[at] = 99
	}
	for at := range mem {
		mem[at] = 99
	}
}

// Z2: the chips and states of arguments stay, and those of results are new memory.
func TestNewMemory(t *testing.T) {
	kept := []int{1, 3, 4, 1, 5, 1, 66, 1, 0, 1, 4, 5, 6, 7}
	for kind := -1; kind <= api.NumKinds; kind++ {
		for name, f := range uses {
			for length := range len(kept) + 1 {
				for _, many := range []int{0, 5, 9, 20, 32, 40, 256, 300, 600} {
					c := sample(kind)
					c.Data = bytes(700)[:len(c.Data)]
					d := api.Dev{N: slices.Clone(kept)[:length], Mem: bytes(700)[:many]}
					first := f(c, d)
					want := api.Dev{N: slices.Clone(first.N), Mem: slices.Clone(first.Mem)}
					spoil(f(c, d))
					if !same(first, want) || !same(f(c, d), want) {
						t.Errorf("kind %d, %s of %d numbers and %d bytes shares memory", kind, name, length, many)
					}
					if !slices.Equal(d.N[:len(kept)], kept) || !slices.Equal(d.Mem[:700], bytes(700)) || len(c.Data) > 0 && !slices.Equal(c.Data[:700], bytes(700)) {
						t.Errorf("kind %d, %s of %d numbers and %d bytes has changed them", kind, name, length, many)
					}
				}
			}
		}
	}
}

// Z1: all functions return for all arguments.
func TestExtremes(t *testing.T) {
	r := rand.New(rand.NewSource(14))
	for range 3000 {
		c := api.Chip{Kind: r.Intn(13) - 2, Base: number(r), Size: number(r), Data: bytes(r.Intn(3) * r.Intn(700))}
		d := random(r)
		for _, f := range uses {
			f(c, d)
		}
		chip.Read(c, d, number(r))
		chip.Write(c, d, number(r), number(r))
		chip.Skip(c, d, number(r))
		chip.In(c, d, number(r))
	}
}
