package port_test

import (
	"math"
	"slices"
	"strconv"
	"testing"

	"bakelite/api"
	"bakelite/port"
)

// extremes are numbers far beyond every register.
var extremes = []int{math.MinInt, math.MinInt + 3, -1 << 32, 1 << 32, math.MaxInt - 3, math.MaxInt}

// chip is a state with these numbers.
func chip(n ...int) api.Dev {
	return api.Dev{N: n}
}

// is reports whether a state has exactly these numbers, and no bytes.
func is(d api.Dev, n ...int) bool {
	return slices.Equal(d.N, n) && len(d.Mem) == 0
}

// quiet are functions that change nothing but the form of a state.
var quiet = map[string]func(d api.Dev) api.Dev{
	"Read":      func(d api.Dev) api.Dev { d, _ = port.Read(d, 0); return d },
	"Read of 1": func(d api.Dev) api.Dev { d, _ = port.Read(d, 1); return d },
	"Read of 9": func(d api.Dev) api.Dev { d, _ = port.Read(d, 9); return d },
	"Write":     func(d api.Dev) api.Dev { return port.Write(d, 9, 1) },
}

func TestConstants(t *testing.T) {
	if port.Size != 2 {
		t.Error(port.Size)
	}
}

// P9.1
func TestNew(t *testing.T) {
	if d := port.New(); !is(d, 255, 0, 0) {
		t.Error(d)
	}
}

// The form of states: missing numbers, further ones, numbers beyond a byte, and bytes.
func TestForm(t *testing.T) {
	for _, x := range []struct {
		d    api.Dev
		want [3]int
	}{
		{api.Dev{}, [3]int{0, 0, 0}},
		{chip(5), [3]int{5, 0, 0}},
		{chip(5, 6), [3]int{5, 6, 0}},
		{chip(5, 6, 7, 8, 9), [3]int{5, 6, 7}},
		{chip(255, 255, 255), [3]int{255, 255, 255}},
		{chip(256, 257, 511), [3]int{0, 1, 255}},
		{chip(-1, -2, -256), [3]int{255, 254, 0}},
		{chip(-257, 65536+3, -65536+4), [3]int{255, 3, 4}},
		{chip(math.MinInt, math.MaxInt, math.MinInt+5), [3]int{0, 255, 5}},
		{api.Dev{N: []int{1, 2}, Mem: []byte{1, 2, 3}}, [3]int{1, 2, 0}},
	} {
		want := x.want
		for name, f := range quiet {
			if d := f(x.d); !is(d, want[:]...) {
				t.Errorf("%s of %v: %v, not %v", name, x.d, d, want)
			}
		}
		if d := port.Write(x.d, 0, 9); !is(d, want[0], 9, want[2]) {
			t.Errorf("latch of %v: %v", x.d, d)
		}
		if d := port.Write(x.d, 1, 9); !is(d, want[0], want[1], 9) {
			t.Errorf("mask of %v: %v", x.d, d)
		}
		if d := port.In(x.d, 9); !is(d, 9, want[1], want[2]) {
			t.Errorf("lines of %v: %v", x.d, d)
		}
		if _, n := port.Read(x.d, 1); n != want[2] {
			t.Errorf("Read of the mask of %v: %d", x.d, n)
		}
	}
}

// leading is what the bits of a mask choose from two bytes, line by line.
func leading(mask, one, zero int) int {
	n := 0
	for bit := 1; bit < 256; bit *= 2 {
		from := zero
		if mask/bit%2 == 1 {
			from = one
		}
		n += from / bit % 2 * bit
	}
	return n
}

// P9.1 and P9.2: what is seen inside and outside, with all masks and many lines and latches.
func TestLines(t *testing.T) {
	for mask := range 256 {
		for lines := 0; lines < 256; lines += 5 {
			for latch := 0; latch < 256; latch += 17 {
				d := chip(lines, latch, mask)
				e, n := port.Read(d, 0)
				if want := leading(mask, latch, lines); n != want || !is(e, lines, latch, mask) {
					t.Fatalf("%v: %d, not %d, and %v", d, n, want, e)
				}
				if out, want := port.Out(d), leading(mask, latch, 0); out != want {
					t.Fatalf("Out of %v: %d, not %d", d, out, want)
				}
			}
		}
	}
}

// P9.1 and P9.2: lines of states that are not in their form.
func TestLinesOfOthers(t *testing.T) {
	for _, x := range []struct {
		d         api.Dev
		read, out int
	}{
		{api.Dev{}, 0, 0}, {chip(7), 7, 0}, {chip(7, 8), 7, 0}, {chip(256+7, 512+8, 0), 7, 0}, {chip(7, 256+8, 256), 7, 0},
		{chip(7, 256+8, -1), 8, 8}, {chip(0, -1, 256+15), 15, 15}, {chip(-1, 0, -16), 15, 0}, {chip(math.MaxInt, math.MinInt, math.MaxInt), 0, 0},
		{api.Dev{N: []int{1, 2, 3, 4}, Mem: []byte{9}}, 2, 2},
	} {
		if _, n := port.Read(x.d, 0); n != x.read {
			t.Errorf("Read of %v: %d, not %d", x.d, n, x.read)
		}
		if n := port.Out(x.d); n != x.out {
			t.Errorf("Out of %v: %d, not %d", x.d, n, x.out)
		}
	}
}

// P9.1
func TestReadOfMask(t *testing.T) {
	for mask := range 256 {
		if d, n := port.Read(chip(1, 2, mask), 1); n != mask || !is(d, 1, 2, mask) {
			t.Errorf("%d: %d, %v", mask, n, d)
		}
	}
}

// P9.1: numbers that are no registers.
func TestNoRegister(t *testing.T) {
	for _, at := range append([]int{2, 3, 4, -1, -2, 255, 256, 257, 65536, 65537}, extremes...) {
		if d, n := port.Read(chip(0x55, 0xFF, 0x0F), at); n != 0 || !is(d, 0x55, 0xFF, 0x0F) {
			t.Errorf("Read of %d: %d, %v", at, n, d)
		}
		if d := port.Write(chip(0x55, 0xFF, 0x0F), at, 1); !is(d, 0x55, 0xFF, 0x0F) {
			t.Errorf("Write of %d: %v", at, d)
		}
	}
}

// P9.1 and P9.2: of data the lowest eight bits.
func TestData(t *testing.T) {
	for _, x := range []struct{ data, want int }{
		{0, 0}, {1, 1}, {170, 170}, {255, 255}, {256, 0}, {256 + 15, 15}, {0x1FF, 255}, {-1, 255}, {-2, 254}, {-256, 0}, {-255, 1},
		{math.MinInt, 0}, {math.MinInt + 9, 9}, {math.MaxInt, 255}, {math.MaxInt - 1, 254}, {1 << 32, 0}, {-1<<32 + 77, 77},
	} {
		if d := port.Write(chip(1, 2, 3), 0, x.data); !is(d, 1, x.want, 3) {
			t.Errorf("latch %d: %v", x.data, d)
		}
		if d := port.Write(chip(1, 2, 3), 1, x.data); !is(d, 1, 2, x.want) {
			t.Errorf("mask %d: %v", x.data, d)
		}
		if d := port.In(chip(1, 2, 3), x.data); !is(d, x.want, 2, 3) {
			t.Errorf("lines %d: %v", x.data, d)
		}
	}
}

// P9.2: the chapter's example, written to the registers.
func TestExample(t *testing.T) {
	d := port.Write(port.Write(port.New(), 0, 170), 1, 15)
	if port.Out(d) != 10 || !is(d, 255, 170, 15) {
		t.Error(port.Out(d), d)
	}
	// Lines from outside are seen only where they lead inwards, and never outside.
	d = port.In(d, 0x3C)
	if _, n := port.Read(d, 0); n != 0x3A || port.Out(d) != 10 {
		t.Errorf("%x, %d", n, port.Out(d))
	}
}

// keeping are functions that use a state in all ways, also those that return none.
func keeping() map[string]func(d api.Dev) api.Dev {
	all := map[string]func(d api.Dev) api.Dev{
		"New": func(api.Dev) api.Dev { return port.New() },
		"In":  func(d api.Dev) api.Dev { return port.In(d, 77) },
		"Out": func(d api.Dev) api.Dev { return chip(port.Out(d)) },
	}
	for at := -1; at < 3; at++ {
		all["Read of "+strconv.Itoa(at)] = func(d api.Dev) api.Dev { d, _ = port.Read(d, at); return d }
		all["Write of "+strconv.Itoa(at)] = func(d api.Dev) api.Dev { return port.Write(d, at, 255) }
	}
	return all
}

// Z2: the states of arguments stay, and those of results are new memory.
func TestNewMemory(t *testing.T) {
	for name, f := range keeping() {
		for length := range 6 {
			d := api.Dev{N: []int{5, 6, 7, 8, 9, 10}[:length], Mem: []byte{1, 2, 3}}
			first := f(d)
			want := slices.Clone(first.N)
			second := f(d).N
			second = second[:cap(second)]
			for at := range second {
				second[at] = 99
			}
			if !slices.Equal(first.N, want) {
				t.Errorf("%s of %d numbers: %v, not %v", name, length, first.N, want)
			}
			if !slices.Equal(d.N[:6], []int{5, 6, 7, 8, 9, 10}) || !slices.Equal(d.Mem, []byte{1, 2, 3}) {
				t.Errorf("%s of %d numbers has changed them: %v, %v", name, length, d.N[:6], d.Mem)
			}
		}
	}
}
