package timer_test

import (
	"maps"
	"math"
	"slices"
	"strconv"
	"testing"

	"bakelite/api"
	"bakelite/timer"
)

// extremes are numbers far beyond every register.
var extremes = []int{math.MinInt, math.MinInt + 3, -1 << 32, 1 << 32, math.MaxInt - 3, math.MaxInt}

// chip is a state with these numbers.
func chip(n ...int) api.Dev {
	return api.Dev{N: n}
}

// is reports whether a state has exactly these numbers, and no bytes.
func is(d api.Dev, n ...int) bool {
	return slices.Equal(d.N, n) && len(d.Mem) == 0
}

// quiet are functions that change nothing but the form of a state, if the chip neither runs nor has fired.
var quiet = map[string]func(d api.Dev) api.Dev{
	"Read":      func(d api.Dev) api.Dev { d, _ = timer.Read(d, 0); return d },
	"Read of 3": func(d api.Dev) api.Dev { d, _ = timer.Read(d, 3); return d },
	"Read of 9": func(d api.Dev) api.Dev { d, _ = timer.Read(d, 9); return d },
	"Write":     func(d api.Dev) api.Dev { return timer.Write(d, 9, 1) },
	"Tick":      timer.Tick,
	"Skip":      func(d api.Dev) api.Dev { return timer.Skip(d, 5) },
	"no Skip":   func(d api.Dev) api.Dev { return timer.Skip(d, 0) },
}

func TestConstants(t *testing.T) {
	if timer.Size != 4 || timer.Run != 1 || timer.Repeat != 2 || timer.Irqs != 4 || timer.Load != 128 {
		t.Error(timer.Size, timer.Run, timer.Repeat, timer.Irqs, timer.Load)
	}
}

// P8.1
func TestNew(t *testing.T) {
	if d := timer.New(); !is(d, 0, 0, 0, 0) {
		t.Error(d)
	}
}

// The form of states: missing numbers, further ones, numbers beyond their ranges, and bytes.
func TestForm(t *testing.T) {
	for _, x := range []struct {
		d    api.Dev
		want []int
	}{
		{api.Dev{}, []int{0, 0, 0, 0}},
		{chip(5), []int{5, 0, 0, 0}},
		{chip(5, 6), []int{5, 6, 0, 0}},
		{chip(5, 6, 4), []int{5, 6, 4, 0}},
		{chip(5, 6, 4, 0, 1, 1, 1), []int{5, 6, 4, 0}},
		{chip(65535, 65535, 6, 0), []int{65535, 65535, 6, 0}},
		{chip(65536, 65537, 8, 2), []int{0, 1, 0, 0}},
		{chip(-1, -2, -2, -2), []int{65535, 65534, 6, 0}},
		{chip(-65536, -65537, -8, 256), []int{0, 65535, 0, 0}},
		{chip(math.MinInt, math.MinInt+1, math.MinInt+2, math.MinInt), []int{0, 1, 2, 0}},
		{chip(math.MaxInt, math.MaxInt-1, math.MaxInt-1, math.MaxInt-1), []int{65535, 65534, 6, 0}},
		{api.Dev{N: []int{1, 2, 4}, Mem: []byte{1, 2, 3, 4}}, []int{1, 2, 4, 0}},
	} {
		for name, f := range quiet {
			if d := f(x.d); !is(d, x.want...) {
				t.Errorf("%s of %v: %v, not %v", name, x.d, d, x.want)
			}
		}
	}
}

// P8.1: what each register shows, and what reading it leaves.
func TestRead(t *testing.T) {
	for _, x := range []struct{ at, n int }{
		{0, 0x34}, {1, 0x12}, {2, 5}, {3, 1}, {4, 0}, {5, 0}, {-1, 0}, {-4, 0}, {256, 0}, {259, 0}, {65536, 0},
	} {
		fired := 1
		if x.at == 3 {
			fired = 0
		}
		if d, n := timer.Read(chip(0x1234, 0x5678, 5, 1), x.at); n != x.n || !is(d, 0x1234, 0x5678, 5, fired) {
			t.Errorf("register %d: %d, %v", x.at, n, d)
		}
	}
	for _, at := range extremes {
		if d, n := timer.Read(chip(0x1234, 0x5678, 5, 1), at); n != 0 || !is(d, 0x1234, 0x5678, 5, 1) {
			t.Errorf("register %d: %d, %v", at, n, d)
		}
	}
}

// P8.1: registers of states that are not in their form.
func TestReadOfOthers(t *testing.T) {
	for _, x := range []struct {
		d    api.Dev
		want [4]int
	}{
		{api.Dev{}, [4]int{}},
		{chip(-2), [4]int{254, 255, 0, 0}},
		{chip(65536+515, 9, 15, 3), [4]int{3, 2, 7, 1}},
		{chip(1, 1, -4, -2), [4]int{1, 0, 4, 0}},
		{chip(1, 1, 8, -1), [4]int{1, 0, 0, 1}},
	} {
		for at, want := range x.want {
			if _, n := timer.Read(x.d, at); n != want {
				t.Errorf("register %d of %v: %d, not %d", at, x.d, n, want)
			}
		}
	}
}

// P8.1: what has fired is cleared by reading it, so that it is read once.
func TestReadClears(t *testing.T) {
	d := chip(3, 4, 7, 1)
	d, first := timer.Read(d, 3)
	d, second := timer.Read(d, 3)
	if first != 1 || second != 0 || timer.Irq(d) || !is(d, 3, 4, 7, 0) {
		t.Error(first, second, d)
	}
}

// P8.1
func TestWrite(t *testing.T) {
	for _, x := range []struct {
		at, data int
		want     []int
	}{
		{0, 0xAB, []int{9, 0x12AB, 5, 1}}, {0, 0, []int{9, 0x1200, 5, 1}}, {0, 0xFAB, []int{9, 0x12AB, 5, 1}}, {0, -1, []int{9, 0x12FF, 5, 1}}, {0, 256, []int{9, 0x1200, 5, 1}},
		{1, 0xAB, []int{9, 0xAB34, 5, 1}}, {1, 0, []int{9, 0x34, 5, 1}}, {1, 0xFAB, []int{9, 0xAB34, 5, 1}}, {1, -2, []int{9, 0xFE34, 5, 1}}, {1, 256, []int{9, 0x34, 5, 1}},
		{2, 0, []int{9, 0x1234, 0, 1}}, {2, 7, []int{9, 0x1234, 7, 1}}, {2, 2, []int{9, 0x1234, 2, 1}}, {2, 8, []int{9, 0x1234, 0, 1}}, {2, 127, []int{9, 0x1234, 7, 1}}, {2, 256 + 64, []int{9, 0x1234, 0, 1}},
		{2, 128, []int{0x1234, 0x1234, 0, 1}}, {2, 129, []int{0x1234, 0x1234, 1, 1}}, {2, 255, []int{0x1234, 0x1234, 7, 1}}, {2, 1024 + 128 + 6, []int{0x1234, 0x1234, 6, 1}},
		{2, -1, []int{0x1234, 0x1234, 7, 1}}, {2, -128, []int{0x1234, 0x1234, 0, 1}}, {2, -129, []int{9, 0x1234, 7, 1}}, {2, math.MinInt, []int{9, 0x1234, 0, 1}},
		{3, 0, []int{9, 0x1234, 5, 1}}, {3, 255, []int{9, 0x1234, 5, 1}}, {4, 255, []int{9, 0x1234, 5, 1}}, {6, 255, []int{9, 0x1234, 5, 1}}, {-1, 255, []int{9, 0x1234, 5, 1}}, {256, 255, []int{9, 0x1234, 5, 1}},
	} {
		if d := timer.Write(chip(9, 0x1234, 5, 1), x.at, x.data); !is(d, x.want...) {
			t.Errorf("%d into register %d: %v, not %v", x.data, x.at, d, x.want)
		}
	}
	for _, at := range extremes {
		if d := timer.Write(chip(9, 0x1234, 5, 0), at, 255); !is(d, 9, 0x1234, 5, 0) {
			t.Errorf("register %d: %v", at, d)
		}
	}
}

// P8.1: writing 3 does not make a chip fire.
func TestWriteDoesNotFire(t *testing.T) {
	if d := timer.Write(chip(9, 8, 5, 0), 3, 1); !is(d, 9, 8, 5, 0) {
		t.Error(d)
	}
}

// P8.2
func TestTick(t *testing.T) {
	for _, x := range []struct{ from, to []int }{
		{[]int{5, 9, 0, 0}, []int{5, 9, 0, 0}}, {[]int{0, 9, 6, 0}, []int{0, 9, 6, 0}}, {[]int{0, 9, 6, 1}, []int{0, 9, 6, 1}},
		{[]int{5, 9, 1, 0}, []int{4, 9, 1, 0}}, {[]int{5, 9, 7, 1}, []int{4, 9, 7, 1}}, {[]int{1, 9, 3, 0}, []int{0, 9, 3, 0}}, {[]int{65535, 9, 3, 0}, []int{65534, 9, 3, 0}},
		{[]int{0, 9, 1, 0}, []int{0, 9, 0, 1}}, {[]int{0, 9, 5, 0}, []int{0, 9, 4, 1}}, {[]int{0, 9, 5, 1}, []int{0, 9, 4, 1}},
		{[]int{0, 9, 3, 0}, []int{9, 9, 3, 1}}, {[]int{0, 9, 7, 1}, []int{9, 9, 7, 1}}, {[]int{0, 0, 3, 0}, []int{0, 0, 3, 1}}, {[]int{0, 65535, 3, 0}, []int{65535, 65535, 3, 1}},
	} {
		if d := timer.Tick(chip(x.from...)); !is(d, x.to...) {
			t.Errorf("%v: %v, not %v", x.from, d, x.to)
		}
		if d := timer.Skip(chip(x.from...), 1); !is(d, x.to...) {
			t.Errorf("%v, skipped: %v, not %v", x.from, d, x.to)
		}
	}
}

// P8.2: the chapter's example, written to the registers.
func TestExample(t *testing.T) {
	d := timer.Write(timer.New(), 0, 2)
	d = timer.Write(d, 2, timer.Load|timer.Run)
	for n, fired := range []int{0, 0, 0, 1} {
		if _, got := timer.Read(d, 3); got != fired {
			t.Errorf("after %d cycles: %d", n, got)
		}
		d = timer.Tick(d)
	}
}

// P8.2: Skip does nothing if k is below 1.
func TestNoSkip(t *testing.T) {
	for _, k := range []int{0, -1, -2, -65536, math.MinInt} {
		for control := range 8 {
			if d := timer.Skip(chip(0, 9, control, 0), k); !is(d, 0, 9, control, 0) {
				t.Errorf("%d with the control bits %d: %v", k, control, d)
			}
		}
	}
}

// P8.3
func TestNext(t *testing.T) {
	for _, x := range []struct {
		d    api.Dev
		want int
	}{
		{timer.New(), api.MaxRun}, {api.Dev{}, api.MaxRun}, {chip(5, 6, 6, 1), api.MaxRun}, {chip(5, 6, 8, 0), api.MaxRun},
		{chip(5, 6, 1, 0), 5}, {chip(0, 6, 1, 0), 0}, {chip(0, 6, 7, 1), 0}, {chip(65535, 6, 3, 1), 65535}, {chip(65536+4, 6, 9, 0), 4}, {chip(-1, 6, -1, 0), 65535},
	} {
		if n := timer.Next(x.d); n != x.want {
			t.Errorf("%v: %d, not %d", x.d, n, x.want)
		}
	}
}

// P8.3
func TestIrq(t *testing.T) {
	for control := -8; control < 16; control++ {
		for fired := -4; fired < 4; fired++ {
			want := fired&1 == 1 && control&timer.Irqs != 0
			if got := timer.Irq(chip(5, 6, control, fired)); got != want {
				t.Errorf("control bits %d, fired %d: %v", control, fired, got)
			}
		}
	}
	for _, d := range []api.Dev{{}, chip(1), chip(1, 1), chip(1, 1, 4)} {
		if timer.Irq(d) {
			t.Errorf("%v", d)
		}
	}
}

// keeping are functions that use a state in all ways, also those that return none.
func keeping() map[string]func(d api.Dev) api.Dev {
	all := maps.Clone(quiet)
	all["New"] = func(api.Dev) api.Dev { return timer.New() }
	all["Next"] = func(d api.Dev) api.Dev { return chip(timer.Next(d)) }
	all["Irq"] = func(d api.Dev) api.Dev { timer.Irq(d); return api.Dev{} }
	for at := range 4 {
		all["Read of "+strconv.Itoa(at)] = func(d api.Dev) api.Dev { d, _ = timer.Read(d, at); return d }
		all["Write of "+strconv.Itoa(at)] = func(d api.Dev) api.Dev { return timer.Write(d, at, 255) }
	}
	return all
}

// Z2: the states of arguments stay, and those of results are new memory.
func TestNewMemory(t *testing.T) {
	for name, f := range keeping() {
		for length := range 7 {
			d := api.Dev{N: []int{5, 6, 7, 1, 1, 1, 1}[:length], Mem: []byte{1, 2, 3}}
			first := f(d)
			want := slices.Clone(first.N)
			second := f(d).N
			second = second[:cap(second)]
			for at := range second {
				second[at] = 99
			}
			if !slices.Equal(first.N, want) {
				t.Errorf("%s of %d numbers: %v, not %v", name, length, first.N, want)
			}
			if !slices.Equal(d.N[:7], []int{5, 6, 7, 1, 1, 1, 1}) || !slices.Equal(d.Mem, []byte{1, 2, 3}) {
				t.Errorf("%s of %d numbers has changed them: %v, %v", name, length, d.N[:7], d.Mem)
			}
		}
	}
}
