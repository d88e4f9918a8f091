package chip_test

import (
	"math"
	"slices"
	"strings"
	"testing"

	"bakelite/api"
	"bakelite/chip"
)

// sizes are how many addresses chips have that are no memories.
var sizes = map[int]int{api.Timer: 4, api.Port: 2, api.Serial: 3, api.Video: 32, api.Sound: 8, api.Drive: 4}

// noKinds are numbers of kinds that there are not.
var noKinds = []int{-1, -2, 9, 10, 255, 256, 1 << 32, math.MinInt, math.MaxInt}

// extremes are numbers far beyond every address.
var extremes = []int{math.MinInt, math.MinInt + 1, math.MinInt + 8, -1 << 32, 1 << 32, math.MaxInt - 8, math.MaxInt - 1, math.MaxInt}

// sample is a valid chip of a kind.
func sample(kind int) api.Chip {
	c := api.Chip{Name: "sample", Kind: kind, Base: 1000, Size: sizes[kind]}
	switch kind {
	case api.Ram, api.Rom, api.Bank:
		c.Size, c.Data = 9, bytes(9)
	case api.Drive:
		c.Data = bytes(512)
	}
	return c
}

// bytes are some bytes, of which neighbours differ.
func bytes(many int) []byte {
	b := make([]byte, many)
	for at := range b {
		b[at] = byte(at*7 + at/256 + 1)
	}
	return b
}

// isMemory tells memories from other kinds.
func isMemory(kind int) bool {
	return kind == api.Ram || kind == api.Rom || kind == api.Bank
}

// fault makes a chip one that Check returns an error for.
type fault struct {
	what string
	turn func(c *api.Chip)
	want api.Errno
}

// faults are faults of a sample, in the order in which Check looks for them.
func faults(kind int) []fault {
	all := []fault{
		{"no name", func(c *api.Chip) { c.Name = "" }, api.ErrName},
		{"name", func(c *api.Chip) { c.Name = "Cpu" }, api.ErrName},
		{"name cpu", func(c *api.Chip) { c.Name = "cpu" }, api.ErrBan},
		{"kind -1", func(c *api.Chip) { c.Kind = -1 }, api.ErrType},
		{"kind 9", func(c *api.Chip) { c.Kind = 9 }, api.ErrType},
		{"size 0", func(c *api.Chip) { c.Size = 0 }, api.ErrArg},
		{"size -1", func(c *api.Chip) { c.Size = -1 }, api.ErrArg},
	}
	if isMemory(kind) {
		all = append(all, fault{"size 4097", func(c *api.Chip) { c.Size = 4097 }, api.ErrLarge})
	} else {
		all = append(all, fault{"size 5", func(c *api.Chip) { c.Size = 5 }, api.ErrArg}, fault{"size 4097", func(c *api.Chip) { c.Size = 4097 }, api.ErrArg})
	}
	all = append(all,
		fault{"4097 data", func(c *api.Chip) { c.Data = bytes(4097) }, api.ErrLarge},
		fault{"base -1", func(c *api.Chip) { c.Base = -1 }, api.ErrFar},
		fault{"base 65535", func(c *api.Chip) { c.Base = 65535 }, api.ErrFar})
	if kind != api.Bank {
		all = append(all, fault{"data", func(c *api.Chip) { c.Data = bytes(2001) }, api.ErrForm})
	}
	return all
}

// P14.1
func TestOneFault(t *testing.T) {
	for kind := range api.NumKinds {
		if e := chip.Check(sample(kind)); e != api.OK {
			t.Errorf("kind %d: %v", kind, e)
		}
		for _, f := range faults(kind) {
			c := sample(kind)
			f.turn(&c)
			if e := chip.Check(c); e != f.want {
				t.Errorf("kind %d, %s: %v, not %v", kind, f.what, e, f.want)
			}
		}
	}
}

// P14.1: of two faults the one is told that is looked for first. It is made last, as both may change the same field.
func TestTwoFaults(t *testing.T) {
	for kind := range api.NumKinds {
		all := faults(kind)
		for n, first := range all {
			for _, second := range all[n+1:] {
				c := sample(kind)
				second.turn(&c)
				first.turn(&c)
				if e := chip.Check(c); e != first.want {
					t.Errorf("kind %d, %s, then %s: %v, not %v", kind, first.what, second.what, e, first.want)
				}
			}
		}
	}
}

// P14.1
func TestCheckName(t *testing.T) {
	for name, want := range map[string]api.Errno{
		"a": api.OK, "ram-2": api.OK, "cpu2": api.OK, "cp": api.OK, "cpu-": api.OK, "xcpu": api.OK, strings.Repeat("z", 20): api.OK, "cpu": api.ErrBan,
		"": api.ErrName, "A": api.ErrName, "CPU": api.ErrName, "2a": api.ErrName, "-a": api.ErrName, "a.b": api.ErrName, "é": api.ErrName, " cpu": api.ErrName, "cpu ": api.ErrName, strings.Repeat("z", 21): api.ErrName,
	} {
		for kind := range api.NumKinds {
			c := sample(kind)
			if c.Name = name; chip.Check(c) != want {
				t.Errorf("kind %d, %q: %v, not %v", kind, name, chip.Check(c), want)
			}
		}
	}
}

// P14.1
func TestCheckKind(t *testing.T) {
	for _, kind := range noKinds {
		if e := chip.Check(api.Chip{Name: "a", Kind: kind, Size: 4}); e != api.ErrType {
			t.Errorf("kind %d: %v", kind, e)
		}
	}
}

// P14.1: how many addresses chips can have.
func TestCheckSize(t *testing.T) {
	least := map[int]int{api.Ram: 1, api.Rom: 1, api.Bank: 2}
	some := slices.Clone(extremes)
	for size := -5; size < 50; size++ {
		some = append(some, size)
	}
	for _, size := range append(some, 255, 256, 4095, 4096, 4097, 4098, 65535, 65536, 65537) {
		for kind := range api.NumKinds {
			want := api.OK
			switch {
			case isMemory(kind) && size > 4096:
				want = api.ErrLarge
			case isMemory(kind) && size < least[kind] || !isMemory(kind) && size != sizes[kind]:
				want = api.ErrArg
			}
			if e := chip.Check(api.Chip{Name: "a", Kind: kind, Size: size}); e != want {
				t.Errorf("kind %d, size %d: %v, not %v", kind, size, e, want)
			}
		}
	}
}

// P14.1: the addresses of a chip are those from 0 to 65535.
func TestCheckBase(t *testing.T) {
	for kind := range api.NumKinds {
		c := sample(kind)
		for _, size := range []int{c.Size, 2, 4096} {
			if !isMemory(kind) && size != c.Size {
				continue
			}
			c.Size, c.Data = size, nil
			for _, base := range append([]int{-65536, -size - 1, -size, -size + 1, -1, 0, 1, 32768, 65535 - size, 65536 - size, 65537 - size, 65535, 65536, 65537}, extremes...) {
				want := api.OK
				if base < 0 || base > 65536-size {
					want = api.ErrFar
				}
				if c.Base = base; chip.Check(c) != want {
					t.Errorf("kind %d, size %d, base %d: %v, not %v", kind, size, base, chip.Check(c), want)
				}
			}
		}
	}
	if e := chip.Check(api.Chip{Name: "a", Kind: api.Rom, Size: 1, Base: 65535, Data: bytes(1)}); e != api.OK {
		t.Error("the last address:", e)
	}
}

// P14.1: how many data chips can have.
func TestCheckData(t *testing.T) {
	for _, many := range []int{0, 1, 2, 3, 4, 7, 8, 9, 10, 255, 256, 257, 511, 512, 513, 768, 4000, 4095, 4096, 4097, 4352, 8192} {
		for kind := range api.NumKinds {
			c := sample(kind)
			c.Data = bytes(many)
			fits := many == 0
			switch kind {
			case api.Ram, api.Rom:
				fits = many <= 9
			case api.Bank:
				fits = true
			case api.Drive:
				fits = many%256 == 0
			}
			want := api.OK
			switch {
			case many > 4096:
				want = api.ErrLarge
			case !fits:
				want = api.ErrForm
			}
			if e := chip.Check(c); e != want {
				t.Errorf("kind %d, %d data: %v, not %v", kind, many, e, want)
			}
		}
	}
	for _, size := range []int{1, 2, 100, 4096} {
		for _, kind := range []int{api.Ram, api.Rom} {
			if e := chip.Check(api.Chip{Name: "a", Kind: kind, Size: size, Data: bytes(size)}); e != api.OK {
				t.Errorf("kind %d, %d data of %d: %v", kind, size, size, e)
			}
		}
	}
}
