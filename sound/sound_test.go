package sound_test

import (
	"maps"
	"math"
	"slices"
	"strconv"
	"testing"

	"bakelite/api"
	"bakelite/sound"
)

// extremes are numbers far beyond every register.
var extremes = []int{math.MinInt, math.MinInt + 3, -1 << 32, 1 << 32, math.MaxInt - 3, math.MaxInt}

// chip is a state with these numbers.
func chip(n ...int) api.Dev {
	return api.Dev{N: n}
}

// is reports whether a state has exactly these numbers, and no bytes.
func is(d api.Dev, n ...int) bool {
	return slices.Equal(d.N, n) && len(d.Mem) == 0
}

// with are the numbers of a state, one of whose voices has these and the other one zeros.
func with(v int, n ...int) []int {
	all := make([]int, 12)
	copy(all[6*v:], n)
	return all
}

// quiet are functions that change nothing but the form of a state, if no voice has a period and none fades.
var quiet = map[string]func(d api.Dev) api.Dev{
	"Read":      func(d api.Dev) api.Dev { d, _ = sound.Read(d, 0); return d },
	"Read of 7": func(d api.Dev) api.Dev { d, _ = sound.Read(d, 7); return d },
	"Read of 9": func(d api.Dev) api.Dev { d, _ = sound.Read(d, 9); return d },
	"Write":     func(d api.Dev) api.Dev { return sound.Write(d, 9, 1) },
	"no Skip":   func(d api.Dev) api.Dev { return sound.Skip(d, 0) },
	"back":      func(d api.Dev) api.Dev { return sound.Skip(d, -1) },
}

func TestConstants(t *testing.T) {
	if sound.Size != 8 || sound.Voices != 2 || sound.Decay != 64 {
		t.Error(sound.Size, sound.Voices, sound.Decay)
	}
}

// P12.1
func TestNew(t *testing.T) {
	if d := sound.New(); !is(d, make([]int, 12)...) {
		t.Error(d)
	}
}

// outOfForm are states with missing numbers, further ones, numbers beyond their ranges, and bytes, and what their form is.
var outOfForm = []struct {
	d    api.Dev
	want []int
}{
	{api.Dev{}, []int{0, 0, 0, 0, 0, 0, 0, 0, 0, 0, 0, 0}},
	{chip(5), []int{5, 0, 0, 0, 0, 0, 0, 0, 0, 0, 0, 0}},
	{chip(1, 2, 3, 4, 1, 6, 7), []int{1, 2, 3, 4, 1, 6, 7, 0, 0, 0, 0, 0}},
	{chip(1, 2, 3, 4, 0, 6, 7, 8, 9, 10, 1), []int{1, 2, 3, 4, 0, 6, 7, 8, 9, 10, 1, 0}},
	{chip(1, 2, 3, 4, 1, 6, 7, 8, 9, 10, 1, 12, 13, 14, 15), []int{1, 2, 3, 4, 1, 6, 7, 8, 9, 10, 1, 12}},
	{chip(4095, 15, 255, 4095, 1, 16383, 4095, 15, 255, 4095, 1, 16383), []int{4095, 15, 255, 4095, 1, 16383, 4095, 15, 255, 4095, 1, 16383}},
	{chip(4096, 16, 256, 4096, 2, 16384, 4097, 17, 257, 4097, 3, 16385), []int{0, 0, 0, 0, 0, 0, 1, 1, 1, 1, 1, 1}},
	{chip(-1, -1, -1, -1, -1, -1, -2, -2, -2, -2, -2, -2), []int{4095, 15, 255, 4095, 1, 16383, 4094, 14, 254, 4094, 0, 16382}},
	{chip(-4096, -16, -256, -4096, -2, -16384, -4097, -17, -257, -4097, -3, -16385), []int{0, 0, 0, 0, 0, 0, 4095, 15, 255, 4095, 1, 16383}},
	{chip(math.MinInt, math.MinInt, math.MinInt, math.MinInt, math.MinInt, math.MinInt, math.MaxInt, math.MaxInt, math.MaxInt, math.MaxInt, math.MaxInt, math.MaxInt), []int{0, 0, 0, 0, 0, 0, 4095, 15, 255, 4095, 1, 16383}},
	{api.Dev{N: []int{1, 2}, Mem: []byte{1, 2, 3, 4}}, []int{1, 2, 0, 0, 0, 0, 0, 0, 0, 0, 0, 0}},
}

// The form of states.
func TestForm(t *testing.T) {
	for _, x := range outOfForm {
		for name, f := range quiet {
			if d := f(x.d); !is(d, x.want...) {
				t.Errorf("%s of %v: %v, not %v", name, x.d, d, x.want)
			}
		}
		if got, want := sound.Skip(x.d, 77), sound.Skip(chip(x.want...), 77); !is(got, want.N...) {
			t.Errorf("Skip of %v: %v, not %v", x.d, got, want)
		}
		if got, want := sound.Tick(x.d), sound.Tick(chip(x.want...)); !is(got, want.N...) {
			t.Errorf("Tick of %v: %v, not %v", x.d, got, want)
		}
		if got, want := sound.Next(x.d), sound.Next(chip(x.want...)); got != want {
			t.Errorf("Next of %v: %d, not %d", x.d, got, want)
		}
		if got, want := sound.Out(x.d), x.want[1]*x.want[4]+x.want[7]*x.want[10]; got != want {
			t.Errorf("Out of %v: %d, not %d", x.d, got, want)
		}
	}
}

// voices are the numbers of a state that has others for each voice.
var voices = []int{0xABC, 13, 201, 77, 1, 900, 0x678, 9, 54, 55, 0, 1000}

// P12.1: what each register shows. Reading changes nothing.
func TestRead(t *testing.T) {
	for at, want := range []int{0xBC, 0xA, 13, 201, 0x78, 6, 9, 54, 0, 0, 0, 0, 0, 0, 0, 0} {
		if d, n := sound.Read(chip(voices...), at); n != want || !is(d, voices...) {
			t.Errorf("register %d: %d, %v", at, n, d)
		}
	}
	for _, at := range append([]int{-1, -2, -3, -4, -5, -6, -7, -8, 255, 256, 258, 65538}, extremes...) {
		if d, n := sound.Read(chip(voices...), at); n != 0 || !is(d, voices...) {
			t.Errorf("register %d: %d, %v", at, n, d)
		}
	}
}

// P12.1: registers of states that are not in their form.
func TestReadOfOthers(t *testing.T) {
	for _, x := range outOfForm {
		for v := range 2 {
			n := x.want[6*v:]
			for at, want := range []int{n[0] % 256, n[0] / 256, n[1], n[2]} {
				if _, got := sound.Read(x.d, 4*v+at); got != want {
					t.Errorf("register %d of %v: %d, not %d", 4*v+at, x.d, got, want)
				}
			}
		}
	}
}

// lowest are numbers to write, and their lowest eight bits.
var lowest = []struct{ data, low int }{
	{0, 0}, {1, 1}, {15, 15}, {16, 16}, {0x5A, 0x5A}, {255, 255}, {256, 0}, {257, 1}, {0xFAB, 0xAB}, {-1, 255}, {-2, 254}, {-16, 240}, {-256, 0},
	{math.MinInt, 0}, {math.MinInt + 7, 7}, {math.MaxInt, 255}, {math.MaxInt - 7, 248},
}

// P12.1
func TestWrite(t *testing.T) {
	for _, x := range lowest {
		for v := range 2 {
			for at := range 4 {
				want := slices.Clone(voices)
				n := want[6*v:]
				switch at {
				case 0:
					n[0] = n[0]/256*256 + x.low
				case 1:
					n[0] = n[0]%256 + x.low%16*256
				case 2:
					n[1], n[5] = x.low%16, 0
				case 3:
					n[2] = x.low
				}
				if d := sound.Write(chip(voices...), 4*v+at, x.data); !is(d, want...) {
					t.Errorf("%d into register %d: %v, not %v", x.data, 4*v+at, d, want)
				}
			}
		}
	}
}

// P12.1: the count of the rate becomes 0 also if the volume stays as it is.
func TestWriteSameVolume(t *testing.T) {
	if d := sound.Write(chip(with(1, 8, 5, 3, 4, 1, 99)...), 6, 5); !is(d, with(1, 8, 5, 3, 4, 1, 0)...) {
		t.Error(d)
	}
}

// P12.1: writing where no register is.
func TestWriteNowhere(t *testing.T) {
	for _, at := range append([]int{-1, -2, -4, -6, -8, 8, 9, 10, 14, 256, 258, 65538}, extremes...) {
		if d := sound.Write(chip(voices...), at, 3); !is(d, voices...) {
			t.Errorf("register %d: %v", at, d)
		}
	}
}

// ticks are the numbers of a voice before a cycle and behind it: period, volume, rate, count, phase, count of the rate.
var ticks = []struct{ from, to []int }{
	// no period
	{[]int{0, 0, 0, 0, 0, 0}, []int{0, 0, 0, 0, 0, 0}}, {[]int{0, 0, 0, 7, 1, 8}, []int{0, 0, 0, 7, 1, 8}}, {[]int{0, 15, 0, 4095, 0, 16383}, []int{0, 15, 0, 4095, 0, 16383}},
	// the phase changes when the count reaches the period, or is beyond it
	{[]int{1, 0, 0, 0, 0, 0}, []int{1, 0, 0, 0, 1, 0}}, {[]int{1, 0, 0, 0, 1, 0}, []int{1, 0, 0, 0, 0, 0}}, {[]int{2, 3, 0, 0, 1, 0}, []int{2, 3, 0, 1, 1, 0}}, {[]int{2, 3, 0, 1, 1, 0}, []int{2, 3, 0, 0, 0, 0}},
	{[]int{9, 3, 0, 7, 1, 0}, []int{9, 3, 0, 8, 1, 0}}, {[]int{9, 3, 0, 8, 1, 0}, []int{9, 3, 0, 0, 0, 0}}, {[]int{9, 3, 0, 9, 1, 0}, []int{9, 3, 0, 0, 0, 0}}, {[]int{9, 3, 0, 10, 0, 0}, []int{9, 3, 0, 0, 1, 0}}, {[]int{9, 3, 0, 4095, 0, 0}, []int{9, 3, 0, 0, 1, 0}},
	{[]int{4095, 3, 0, 4093, 0, 0}, []int{4095, 3, 0, 4094, 0, 0}}, {[]int{4095, 3, 0, 4094, 0, 0}, []int{4095, 3, 0, 0, 1, 0}}, {[]int{4095, 3, 0, 4095, 0, 0}, []int{4095, 3, 0, 0, 1, 0}},
	// no rate, or no volume
	{[]int{0, 5, 0, 3, 1, 64}, []int{0, 5, 0, 3, 1, 64}}, {[]int{0, 0, 5, 3, 1, 64}, []int{0, 0, 5, 3, 1, 64}}, {[]int{0, 0, 1, 3, 1, 63}, []int{0, 0, 1, 3, 1, 63}},
	// the volume falls when the count reaches Decay times the rate, or is beyond it
	{[]int{0, 5, 1, 3, 1, 62}, []int{0, 5, 1, 3, 1, 63}}, {[]int{0, 5, 1, 3, 1, 63}, []int{0, 4, 1, 3, 1, 0}}, {[]int{0, 5, 1, 3, 1, 64}, []int{0, 4, 1, 3, 1, 0}}, {[]int{0, 1, 1, 3, 1, 65}, []int{0, 0, 1, 3, 1, 0}}, {[]int{0, 15, 1, 3, 1, 16383}, []int{0, 14, 1, 3, 1, 0}},
	{[]int{0, 5, 255, 3, 0, 16318}, []int{0, 5, 255, 3, 0, 16319}}, {[]int{0, 5, 255, 3, 0, 16319}, []int{0, 4, 255, 3, 0, 0}}, {[]int{0, 5, 255, 3, 0, 16383}, []int{0, 4, 255, 3, 0, 0}},
	// both
	{[]int{3, 5, 2, 2, 0, 127}, []int{3, 4, 2, 0, 1, 0}}, {[]int{3, 5, 2, 1, 0, 126}, []int{3, 5, 2, 2, 0, 127}}, {[]int{3, 5, 2, 1, 0, 127}, []int{3, 4, 2, 2, 0, 0}}, {[]int{3, 5, 2, 2, 0, 126}, []int{3, 5, 2, 0, 1, 127}},
}

// P12.2
func TestTick(t *testing.T) {
	for _, x := range ticks {
		for v := range 2 {
			if d := sound.Tick(chip(with(v, x.from...)...)); !is(d, with(v, x.to...)...) {
				t.Errorf("voice %d, %v: %v, not %v", v, x.from, d, x.to)
			}
			if d := sound.Skip(chip(with(v, x.from...)...), 1); !is(d, with(v, x.to...)...) {
				t.Errorf("voice %d, %v, skipped: %v, not %v", v, x.from, d, x.to)
			}
		}
	}
}

// P12.2: each voice for itself.
func TestBothVoices(t *testing.T) {
	for _, x := range ticks {
		for _, y := range ticks {
			d, want := chip(slices.Concat(x.from, y.from)...), slices.Concat(x.to, y.to)
			if got := sound.Tick(d); !is(got, want...) {
				t.Errorf("%v: %v, not %v", d, got, want)
			}
		}
	}
}

// P12.2: Skip does nothing if k is below 1.
func TestNoSkip(t *testing.T) {
	for _, k := range []int{0, -1, -2, -100 * api.MaxRun, math.MinInt} {
		for _, x := range ticks {
			if d := sound.Skip(chip(with(0, x.from...)...), k); !is(d, with(0, x.from...)...) {
				t.Errorf("%d cycles of %v: %v", k, x.from, d)
			}
		}
	}
}

// P12.2: no more than 100 * MaxRun cycles pass.
func TestSkipMost(t *testing.T) {
	const most = 100 * api.MaxRun
	for _, x := range []struct{ k, count, phase int }{
		{most - 1, (most - 1) % 4001, (most - 1) / 4001 % 2}, {most, most % 4001, most / 4001 % 2}, {most + 1, most % 4001, most / 4001 % 2},
		{2 * most, most % 4001, most / 4001 % 2}, {1 << 40, most % 4001, most / 4001 % 2}, {math.MaxInt, most % 4001, most / 4001 % 2},
	} {
		if d := sound.Skip(chip(with(1, 4001)...), x.k); !is(d, with(1, 4001, 0, 0, x.count, x.phase)...) {
			t.Errorf("%d cycles: %v", x.k, d)
		}
	}
}

// P12.2: the volume falls to 0 and no further, and the counts stay then.
func TestFading(t *testing.T) {
	for _, x := range []struct{ k, volume, count int }{
		{1, 3, 11}, {117, 3, 127}, {118, 2, 0}, {119, 2, 1}, {245, 2, 127}, {246, 1, 0}, {373, 1, 127}, {374, 0, 0}, {375, 0, 0}, {502, 0, 0}, {5000, 0, 0}, {math.MaxInt, 0, 0},
	} {
		if d := sound.Skip(chip(with(1, 0, 3, 2, 0, 0, 10)...), x.k); !is(d, with(1, 0, x.volume, 2, 0, 0, x.count)...) {
			t.Errorf("after %d cycles: %v", x.k, d)
		}
	}
}

// P12.3
func TestNext(t *testing.T) {
	for _, x := range []struct {
		n    []int
		want int
	}{
		{[]int{}, api.MaxRun}, {[]int{0, 15, 0, 3, 1, 9}, api.MaxRun}, {[]int{0, 0, 9, 3, 1, 9}, api.MaxRun},
		{[]int{1}, 0}, {[]int{2}, 1}, {[]int{9, 1, 0, 7}, 1}, {[]int{9, 1, 0, 8}, 0}, {[]int{9, 1, 0, 9}, 0}, {[]int{9, 1, 0, 10}, 0}, {[]int{9, 1, 0, 4095}, 0}, {[]int{4095}, 4094}, {[]int{9, 0, 0, 2}, 6},
		{[]int{0, 1, 1}, 63}, {[]int{0, 15, 255}, 16319}, {[]int{0, 1, 2, 0, 0, 100}, 27}, {[]int{0, 1, 2, 0, 0, 126}, 1}, {[]int{0, 1, 2, 0, 0, 127}, 0}, {[]int{0, 1, 2, 0, 0, 128}, 0}, {[]int{0, 1, 2, 0, 0, 129}, 0}, {[]int{0, 1, 2, 0, 0, 16383}, 0},
		{[]int{100, 5, 1}, 63}, {[]int{50, 5, 1}, 49}, {[]int{100, 0, 1}, 99}, {[]int{100, 5, 0}, 99}, {[]int{-1, 5, -1}, 4094}, {[]int{4096, 16, 256}, api.MaxRun},
	} {
		for v := range 2 {
			if n := sound.Next(chip(with(v, x.n...)...)); n != x.want {
				t.Errorf("voice %d, %v: %d, not %d", v, x.n, n, x.want)
			}
		}
	}
	for _, x := range []struct {
		d    api.Dev
		want int
	}{
		{api.Dev{}, api.MaxRun}, {chip(30, 0, 0, 0, 0, 0, 20), 19}, {chip(30, 0, 0, 0, 0, 0, 40), 29}, {chip(300, 1, 1, 0, 0, 0, 400, 1, 1, 0, 0, 1), 62}, {chip(300, 1, 1, 0, 0, 2, 400, 1, 1, 0, 0, 1), 61},
	} {
		if n := sound.Next(x.d); n != x.want {
			t.Errorf("%v: %d, not %d", x.d, n, x.want)
		}
	}
}

// P12.3
func TestOut(t *testing.T) {
	for first := range 16 {
		for second := range 16 {
			for phases := range 4 {
				d := chip(1, first, 2, 3, phases%2, 4, 5, second, 6, 7, phases/2, 8)
				want := phases%2*first + phases/2*second
				if n := sound.Out(d); n != want {
					t.Errorf("%v: %d, not %d", d, n, want)
				}
			}
		}
	}
}

// The chapter's example: a voice with the period 1 and the volume 15.
func TestExample(t *testing.T) {
	for v := range 2 {
		d := sound.Write(sound.Write(sound.New(), 4*v, 1), 4*v+2, 15)
		for i := range 8 {
			if d = sound.Tick(d); sound.Out(d) != 15*(1-i%2) {
				t.Errorf("voice %d after %d cycles: %d", v, i+1, sound.Out(d))
			}
		}
	}
}

// keeping are functions that use a state in all ways, also those that return none.
func keeping() map[string]func(d api.Dev) api.Dev {
	all := maps.Clone(quiet)
	all["New"] = func(api.Dev) api.Dev { return sound.New() }
	all["Tick"] = sound.Tick
	all["Skip"] = func(d api.Dev) api.Dev { return sound.Skip(d, 100) }
	all["Next"] = func(d api.Dev) api.Dev { return chip(sound.Next(d)) }
	all["Out"] = func(d api.Dev) api.Dev { return chip(sound.Out(d)) }
	for at := range 8 {
		all["Read of "+strconv.Itoa(at)] = func(d api.Dev) api.Dev { d, _ = sound.Read(d, at); return d }
		all["Write of "+strconv.Itoa(at)] = func(d api.Dev) api.Dev { return sound.Write(d, at, 255) }
	}
	return all
}

// Z2: the states of arguments stay, and those of results are new memory.
func TestNewMemory(t *testing.T) {
	kept := []int{5, 6, 7, 1, 1, 1, 9, 8, 7, 6, 1, 4, 3, 2}
	for name, f := range keeping() {
		for length := range len(kept) + 1 {
			d := api.Dev{N: slices.Clone(kept)[:length], Mem: []byte{1, 2, 3}}
			first := f(d)
			want := slices.Clone(first.N)
			second := f(d).N
			second = second[:cap(second)]
			for at := range second {
				second[at] = 99
			}
			if !slices.Equal(first.N, want) {
				t.Errorf("%s of %d numbers: %v, not %v", name, length, first.N, want)
			}
			if !slices.Equal(d.N[:len(kept)], kept) || !slices.Equal(d.Mem, []byte{1, 2, 3}) {
				t.Errorf("%s of %d numbers has changed them: %v, %v", name, length, d.N[:len(kept)], d.Mem)
			}
		}
	}
}
