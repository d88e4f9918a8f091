package serial_test

import (
	"math"
	"slices"
	"strconv"
	"testing"

	"bakelite/api"
	"bakelite/serial"
)

// many is how many bytes a chip counts before it begins again.
const many = 1 << 20

// noRegisters are numbers without a register, near and far.
var noRegisters = []int{3, 4, 5, 8, -1, -2, -3, 255, 256, 257, 258, 65536, 1 << 32, -1 << 32, math.MinInt, math.MinInt + 2, math.MaxInt}

// lowest are numbers and the lowest eight bits of them.
var lowest = []struct{ data, want int }{
	{0, 0}, {1, 1}, {65, 65}, {255, 255}, {256, 0}, {300, 44}, {-1, 255}, {-2, 254}, {-256, 0}, {-257, 255},
	{1 << 32, 0}, {-1<<32 + 77, 77}, {math.MinInt, 0}, {math.MinInt + 9, 9}, {math.MaxInt, 255}, {math.MaxInt - 1, 254},
}

// chip is a state with these numbers.
func chip(n ...int) api.Dev {
	return api.Dev{N: n}
}

// is reports whether a state has exactly these numbers, and no bytes.
func is(d api.Dev, n ...int) bool {
	return slices.Equal(d.N, n) && len(d.Mem) == 0
}

// reading is the state that is left when a register has been read.
func reading(at int) func(d api.Dev) api.Dev {
	return func(d api.Dev) api.Dev { d, _ = serial.Read(d, at); return d }
}

// writing is the state when a register has been written.
func writing(at, data int) func(d api.Dev) api.Dev {
	return func(d api.Dev) api.Dev { return serial.Write(d, at, data) }
}

// waiting is the state some cycles later.
func waiting(k int) func(d api.Dev) api.Dev {
	return func(d api.Dev) api.Dev { return serial.Skip(d, k) }
}

func TestConstants(t *testing.T) {
	if serial.Size != 3 || serial.Time != 40 {
		t.Error(serial.Size, serial.Time)
	}
}

// P10.1
func TestNew(t *testing.T) {
	if d := serial.New(); !is(d, 0, 0, 0, 0, 0, 0, 0, 0) {
		t.Error(d)
	}
}

// outOfForm are states with missing numbers, further ones, numbers beyond their ranges, or bytes, and the numbers that they stand for.
var outOfForm = []struct {
	d    api.Dev
	want [8]int
}{
	{api.Dev{}, [8]int{}},
	{chip(5), [8]int{5}},
	{chip(5, 6), [8]int{5, 6}},
	{chip(5, 6, 7, 1), [8]int{5, 6, 7, 1}},
	{chip(5, 6, 7, 1, 1, 3, 8), [8]int{5, 6, 7, 1, 1, 3, 8, 0}},
	{chip(5, 6, 7, 1, 1, 3, 8, 9, 1, 1, 1), [8]int{5, 6, 7, 1, 1, 3, 8, 9}},
	{chip(255, 63, 255, 1, 1, 3, many-1, 255), [8]int{255, 63, 255, 1, 1, 3, many - 1, 255}},
	{chip(256, 64, 256, 2, 2, 4, many, 256), [8]int{}},
	{chip(257, 65, 258, 3, 5, 6, many+3, 260), [8]int{1, 1, 2, 1, 1, 2, 3, 4}},
	{chip(-1, -1, -1, -1, -1, -1, -1, -1), [8]int{255, 63, 255, 1, 1, 3, many - 1, 255}},
	{chip(-256, -64, -256, -2, -2, -4, -many, -256), [8]int{}},
	{chip(-257, -63, -255, -3, -4, -3, 1-many, -2), [8]int{255, 1, 1, 1, 0, 1, 1, 254}},
	{chip(math.MinInt, math.MinInt+1, math.MinInt+2, math.MinInt, math.MinInt+1, math.MinInt+2, math.MinInt+7, math.MinInt), [8]int{0, 1, 2, 0, 1, 2, 7, 0}},
	{chip(math.MaxInt, math.MaxInt-1, math.MaxInt-2, math.MaxInt, math.MaxInt-1, math.MaxInt-2, math.MaxInt-7, math.MaxInt), [8]int{255, 62, 253, 1, 0, 1, many - 8, 255}},
	{api.Dev{N: []int{1, 2, 3}, Mem: []byte{1, 2, 3, 4, 5, 6, 7, 8, 9}}, [8]int{1, 2, 3}},
	{api.Dev{Mem: []byte{1, 2, 3, 4, 5, 6, 7, 8}}, [8]int{}},
}

// The form of states, whatever is done with them: the numbers that a function says nothing of are kept.
func TestForm(t *testing.T) {
	for _, x := range outOfForm {
		for name, does := range map[string]struct {
			f      func(d api.Dev) api.Dev
			change func(n []int)
		}{
			"Read of 0":  {reading(0), func(n []int) { n[3] = 0 }},
			"Read of 1":  {reading(1), func(n []int) { n[4] = 0 }},
			"Read of 2":  {reading(2), func(n []int) {}},
			"Read of 9":  {reading(9), func(n []int) {}},
			"Write of 1": {writing(1, 77), func(n []int) {}},
			"Write of 2": {writing(2, 2), func(n []int) { n[5] = 2 }},
			"Write of 9": {writing(9, 77), func(n []int) {}},
			"no Skip":    {waiting(0), func(n []int) {}},
			"Write of 0": {writing(0, 77), func(n []int) {
				if n[1] == 0 {
					n[0], n[1] = 77, 40
				}
			}},
			"In": {func(d api.Dev) api.Dev { return serial.In(d, 77) }, func(n []int) {
				if n[3] == 1 {
					n[4] = 1
				} else {
					n[2], n[3] = 77, 1
				}
			}},
		} {
			want := x.want
			does.change(want[:])
			if d := does.f(x.d); !is(d, want[:]...) {
				t.Errorf("%s of %v: %v, not %v", name, x.d, d, want)
			}
		}
	}
}

// What is read of states that are not in their form, in all ways.
func TestShownOfOthers(t *testing.T) {
	for _, x := range outOfForm {
		n := x.want
		busy := 0
		if n[1] > 0 {
			busy = 2
		}
		for at, want := range []int{n[2], n[3] + busy + n[4]*4, n[5], 0, 0, 0, 0, 0, 0} {
			if _, got := serial.Read(x.d, at); got != want {
				t.Errorf("register %d of %v: %d, not %d", at, x.d, got, want)
			}
		}
		if got := serial.Out(x.d); got != n[6]*256+n[7] {
			t.Errorf("Out of %v: %d", x.d, got)
		}
		if got := serial.Irq(x.d); got != (n[5]&1 == 1 && n[3] == 1 || n[5] >= 2 && n[1] == 0) {
			t.Errorf("Irq of %v: %v", x.d, got)
		}
		if got := serial.Next(x.d); got != n[1]-1 && (got != api.MaxRun || n[1] > 0) {
			t.Errorf("Next of %v: %d", x.d, got)
		}
	}
}

// P10.1: the byte received stays when it is read, but then there is none.
func TestReadOfByte(t *testing.T) {
	for received := range 256 {
		for there := range 2 {
			d, n := serial.Read(chip(1, 2, received, there, 1, 3, 8, 9), 0)
			if n != received || !is(d, 1, 2, received, 0, 1, 3, 8, 9) {
				t.Errorf("%d: %d, %v", received, n, d)
			}
		}
	}
}

// P10.1: the status register, which is read twice: first with what was lost, then without it.
func TestReadOfStatus(t *testing.T) {
	for _, left := range []int{0, 1, 2, 39, 40, 63} {
		for there := range 2 {
			for lost := range 2 {
				want := there
				if left > 0 {
					want += 2
				}
				d := chip(1, left, 3, there, lost, 3, 8, 9)
				d, first := serial.Read(d, 1)
				if first != want+4*lost || !is(d, 1, left, 3, there, 0, 3, 8, 9) {
					t.Errorf("left %d, there %d, lost %d: %d, %v", left, there, lost, first, d)
				}
				d, second := serial.Read(d, 1)
				if second != want || !is(d, 1, left, 3, there, 0, 3, 8, 9) {
					t.Errorf("left %d, there %d, lost %d, again: %d, %v", left, there, lost, second, d)
				}
			}
		}
	}
}

// P10.1
func TestReadOfControl(t *testing.T) {
	for control := range 4 {
		if d, n := serial.Read(chip(1, 2, 3, 1, 1, control, 8, 9), 2); n != control || !is(d, 1, 2, 3, 1, 1, control, 8, 9) {
			t.Errorf("%d: %d, %v", control, n, d)
		}
	}
}

// P10.1: numbers that are no registers, and the one that is only read.
func TestNoRegister(t *testing.T) {
	for _, at := range noRegisters {
		if d, n := serial.Read(chip(1, 2, 3, 1, 1, 3, 8, 9), at); n != 0 || !is(d, 1, 2, 3, 1, 1, 3, 8, 9) {
			t.Errorf("Read of %d: %d, %v", at, n, d)
		}
	}
	for _, at := range append([]int{1}, noRegisters...) {
		for _, data := range []int{0, 1, 2, 7, 255, -1} {
			if d := serial.Write(chip(1, 0, 3, 1, 1, 3, 8, 9), at, data); !is(d, 1, 0, 3, 1, 1, 3, 8, 9) {
				t.Errorf("Write of %d: %v", at, d)
			}
			if d := serial.Write(chip(1, 0, 3, 0, 0, 0, 8, 9), at, data); !is(d, 1, 0, 3, 0, 0, 0, 8, 9) {
				t.Errorf("Write of %d: %v", at, d)
			}
		}
	}
}

// P10.1: of data the lowest eight bits begin to be sent, and nothing else happens at once.
func TestSend(t *testing.T) {
	for _, x := range lowest {
		if d := serial.Write(chip(1, 0, 3, 1, 1, 3, 8, 9), 0, x.data); !is(d, x.want, 40, 3, 1, 1, 3, 8, 9) {
			t.Errorf("%d: %v", x.data, d)
		}
		if d := serial.Write(serial.New(), 0, x.data); !is(d, x.want, 40, 0, 0, 0, 0, 0, 0) {
			t.Errorf("%d of a new chip: %v", x.data, d)
		}
	}
}

// P10.1: while a byte is being sent, none is begun.
func TestSendWhileBusy(t *testing.T) {
	for left := 1; left < 64; left++ {
		for _, x := range lowest {
			if d := serial.Write(chip(1, left, 3, 1, 0, 2, 8, 9), 0, x.data); !is(d, 1, left, 3, 1, 0, 2, 8, 9) {
				t.Errorf("%d with %d cycles left: %v", x.data, left, d)
			}
		}
	}
}

// P10.1: of data for the control bits the lowest two.
func TestWriteOfControl(t *testing.T) {
	for _, x := range []struct{ data, want int }{
		{0, 0}, {1, 1}, {2, 2}, {3, 3}, {4, 0}, {5, 1}, {254, 2}, {255, 3}, {256, 0}, {-1, 3}, {-2, 2}, {-3, 1}, {-4, 0},
		{1<<32 + 1, 1}, {math.MinInt, 0}, {math.MinInt + 2, 2}, {math.MaxInt, 3}, {math.MaxInt - 3, 0},
	} {
		for control := range 4 {
			if d := serial.Write(chip(1, 2, 3, 1, 1, control, 8, 9), 2, x.data); !is(d, 1, 2, 3, 1, 1, x.want, 8, 9) {
				t.Errorf("%d: %v", x.data, d)
			}
		}
	}
}

// P10.1: a byte is received, whether or not one was lost before. If there is one already, it stays, and one was lost.
func TestIn(t *testing.T) {
	for _, x := range lowest {
		for lost := range 2 {
			if d := serial.In(chip(1, 2, 3, 0, lost, 3, 8, 9), x.data); !is(d, 1, 2, x.want, 1, lost, 3, 8, 9) {
				t.Errorf("%d, lost %d: %v", x.data, lost, d)
			}
			if d := serial.In(chip(1, 2, 3, 1, lost, 3, 8, 9), x.data); !is(d, 1, 2, 3, 1, 1, 3, 8, 9) {
				t.Errorf("%d after another one, lost %d: %v", x.data, lost, d)
			}
		}
	}
}

// P10.1: a byte that has been read makes room for the next one.
func TestInAgain(t *testing.T) {
	d := serial.In(serial.New(), 10)
	d = serial.In(d, 20)
	d, n := serial.Read(d, 0)
	if n != 10 || !is(d, 0, 0, 10, 0, 1, 0, 0, 0) {
		t.Errorf("%d, %v", n, d)
	}
	d = serial.In(d, 30)
	if d, n = serial.Read(d, 0); n != 30 || !is(d, 0, 0, 30, 0, 1, 0, 0, 0) {
		t.Errorf("%d, %v", n, d)
	}
	if d, n = serial.Read(d, 1); n != 4 || !is(d, 0, 0, 30, 0, 0, 0, 0, 0) {
		t.Errorf("%d, %v", n, d)
	}
}

// P10.2
func TestTick(t *testing.T) {
	for _, x := range []struct{ from, to []int }{
		{[]int{5, 0, 3, 1, 1, 3, 8, 9}, []int{5, 0, 3, 1, 1, 3, 8, 9}}, {[]int{5, 0, 3, 0, 0, 0, 0, 0}, []int{5, 0, 3, 0, 0, 0, 0, 0}},
		{[]int{5, 63, 3, 1, 1, 3, 8, 9}, []int{5, 62, 3, 1, 1, 3, 8, 9}}, {[]int{5, 40, 3, 1, 1, 3, 8, 9}, []int{5, 39, 3, 1, 1, 3, 8, 9}}, {[]int{5, 2, 3, 0, 0, 0, 8, 9}, []int{5, 1, 3, 0, 0, 0, 8, 9}},
		{[]int{5, 1, 3, 1, 1, 3, 8, 9}, []int{5, 0, 3, 1, 1, 3, 9, 5}}, {[]int{255, 1, 3, 0, 0, 0, 0, 0}, []int{255, 0, 3, 0, 0, 0, 1, 255}}, {[]int{0, 1, 3, 1, 0, 1, 255, 9}, []int{0, 0, 3, 1, 0, 1, 256, 0}},
		{[]int{5, 1, 3, 1, 1, 3, many - 2, 9}, []int{5, 0, 3, 1, 1, 3, many - 1, 5}}, {[]int{5, 1, 3, 1, 1, 3, many - 1, 9}, []int{5, 0, 3, 1, 1, 3, 0, 5}},
	} {
		if d := serial.Tick(chip(x.from...)); !is(d, x.to...) {
			t.Errorf("%v: %v, not %v", x.from, d, x.to)
		}
		if d := serial.Skip(chip(x.from...), 1); !is(d, x.to...) {
			t.Errorf("%v, skipped: %v, not %v", x.from, d, x.to)
		}
	}
}

// P10.2: Tick of states that are not in their form.
func TestTickOfOthers(t *testing.T) {
	for _, x := range outOfForm {
		want := x.want
		if want[1]--; want[1] == 0 {
			want[6], want[7] = (want[6]+1)%many, want[0]
		}
		want[1] = max(want[1], 0)
		if d := serial.Tick(x.d); !is(d, want[:]...) {
			t.Errorf("%v: %v, not %v", x.d, d, want)
		}
	}
}

// P10.2: Skip does nothing if k is below 1.
func TestNoSkip(t *testing.T) {
	for _, k := range []int{0, -1, -2, -40, -64, -65536, math.MinInt} {
		for left := range 64 {
			if d := serial.Skip(chip(5, left, 3, 1, 1, 3, 8, 9), k); !is(d, 5, left, 3, 1, 1, 3, 8, 9) {
				t.Errorf("%d cycles with %d left: %v", k, left, d)
			}
		}
	}
}

// P10.2: in any number of cycles, also too many to pass one by one, at most one byte is sent.
func TestSkipFar(t *testing.T) {
	for _, k := range []int{63, 64, 65, 100, 127, 128, 1000, api.MaxRun, 1 << 32, 1<<62 + 1, math.MaxInt - 1, math.MaxInt} {
		if d := serial.Skip(chip(5, 0, 3, 1, 1, 3, 8, 9), k); !is(d, 5, 0, 3, 1, 1, 3, 8, 9) {
			t.Errorf("%d cycles of a chip that sends nothing: %v", k, d)
		}
		for left := 1; left < 64; left++ {
			if d := serial.Skip(chip(5, left, 3, 1, 1, 3, 8, 9), k); !is(d, 5, 0, 3, 1, 1, 3, 9, 5) {
				t.Errorf("%d cycles with %d left: %v", k, left, d)
			}
		}
	}
}

// P10.2
func TestNext(t *testing.T) {
	for left := range 64 {
		want := left - 1
		if left == 0 {
			want = api.MaxRun
		}
		for control := range 4 {
			if n := serial.Next(chip(5, left, 3, 1, 1, control, 8, 9)); n != want {
				t.Errorf("%d cycles left: %d", left, n)
			}
		}
	}
	if n := serial.Next(serial.New()); n != api.MaxRun {
		t.Error(n)
	}
}

// P10.3
func TestIrq(t *testing.T) {
	for control := range 4 {
		for there := range 2 {
			for _, left := range []int{0, 1, 2, 40, 63} {
				byThere := (control == 1 || control == 3) && there == 1
				byFree := (control == 2 || control == 3) && left == 0
				for lost := range 2 {
					if got := serial.Irq(chip(5, left, 7, there, lost, control, 8, 9)); got != (byThere || byFree) {
						t.Errorf("control bits %d, there %d, left %d: %v", control, there, left, got)
					}
				}
			}
		}
	}
}

// P10.3
func TestOut(t *testing.T) {
	for _, x := range []struct{ sent, last, want int }{
		{0, 0, 0}, {0, 7, 7}, {1, 0, 256}, {1, 65, 321}, {2, 255, 767}, {255, 255, 65535}, {256, 0, 65536}, {many - 1, 255, many*256 - 1},
	} {
		if got := serial.Out(chip(5, 6, 7, 1, 1, 3, x.sent, x.last)); got != x.want {
			t.Errorf("%d bytes, last %d: %d, not %d", x.sent, x.last, got, x.want)
		}
	}
}

// P10.1 to P10.3: the chapter's example, and a second byte behind it.
func TestExample(t *testing.T) {
	d := serial.Write(serial.New(), 0, 65)
	for n := range 40 {
		if serial.Out(d) != 0 {
			t.Errorf("after %d cycles: %d", n, serial.Out(d))
		}
		d = serial.Tick(d)
	}
	if serial.Out(d) != 321 {
		t.Error(serial.Out(d))
	}
	d = serial.Skip(serial.Write(d, 0, 66), 39)
	if serial.Out(d) != 321 || serial.Out(serial.Tick(d)) != 512+66 {
		t.Error(serial.Out(d), serial.Out(serial.Tick(d)))
	}
}

// keeping are functions that use a state in all ways, also those that return none.
func keeping() map[string]func(d api.Dev) api.Dev {
	all := map[string]func(d api.Dev) api.Dev{
		"New":     func(api.Dev) api.Dev { return serial.New() },
		"In":      func(d api.Dev) api.Dev { return serial.In(d, 77) },
		"Tick":    serial.Tick,
		"no Skip": waiting(0),
		"Skip":    waiting(10),
		"Next":    func(d api.Dev) api.Dev { return chip(serial.Next(d)) },
		"Irq":     func(d api.Dev) api.Dev { serial.Irq(d); return api.Dev{} },
		"Out":     func(d api.Dev) api.Dev { return chip(serial.Out(d)) },
	}
	for at := -1; at < 4; at++ {
		all["Read of "+strconv.Itoa(at)] = reading(at)
		all["Write of "+strconv.Itoa(at)] = writing(at, 255)
	}
	return all
}

// Z2: the states of arguments stay, and those of results are new memory.
func TestNewMemory(t *testing.T) {
	numbers := []int{5, 6, 7, 1, 1, 3, 8, 9, 10, 11}
	for name, f := range keeping() {
		for length := range len(numbers) {
			d := api.Dev{N: slices.Clone(numbers)[:length], Mem: []byte{1, 2, 3}}
			first := f(d)
			want := slices.Clone(first.N)
			second := f(d).N
			second = second[:cap(second)]
			for at := range second {
				second[at] = 99
			}
			if !slices.Equal(first.N, want) {
				t.Errorf("%s of %d numbers: %v, not %v", name, length, first.N, want)
			}
			if !slices.Equal(d.N[:len(numbers)], numbers) || !slices.Equal(d.Mem, []byte{1, 2, 3}) {
				t.Errorf("%s of %d numbers has changed them: %v, %v", name, length, d.N[:len(numbers)], d.Mem)
			}
		}
	}
}
