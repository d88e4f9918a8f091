package drive_test

import (
	"maps"
	"math"
	"slices"
	"strconv"
	"testing"

	"bakelite/api"
	"bakelite/drive"
)

// The numbers of a state.
const (
	disk = iota
	track
	command
	sector
	done
	left
	data
	ready
	lost
	control
	numbers
)

// size is how many bytes a disk has.
const size = 256

// extremes are numbers far beyond every register.
var extremes = []int{math.MinInt, math.MinInt + 3, -1 << 32, 1 << 32, math.MaxInt - 3, math.MaxInt}

// surface returns some bytes, each of which says where it stands.
func surface(length int) []byte {
	b := make([]byte, length)
	for i := range b {
		b[i] = byte(i*7 + i/size)
	}
	return b
}

// chip is a state with three disks and these numbers.
func chip(n ...int) api.Dev {
	return api.Dev{N: n, Mem: surface(3 * size)}
}

// with is a state with three disks and ten numbers, some of which are set: where, and to what.
func with(pairs ...int) api.Dev {
	d := chip(make([]int, numbers)...)
	for at := 0; at < len(pairs); at += 2 {
		d.N[pairs[at]] = pairs[at+1]
	}
	return d
}

// same reports whether two states have the same numbers and bytes.
func same(d, e api.Dev) bool {
	return slices.Equal(d.N, e.N) && slices.Equal(d.Mem, e.Mem)
}

// but is a state with other numbers: where, and what.
func but(d api.Dev, pairs ...int) api.Dev {
	d = api.Dev{N: slices.Clone(d.N), Mem: slices.Clone(d.Mem)}
	for at := 0; at < len(pairs); at += 2 {
		d.N[pairs[at]] = pairs[at+1]
	}
	return d
}

// read is the register that Read returns.
func read(d api.Dev, at int) int {
	_, n := drive.Read(d, at)
	return n
}

// quiet are functions that change nothing but the form of a state.
var quiet = map[string]func(d api.Dev) api.Dev{
	"Read of 2":  func(d api.Dev) api.Dev { d, _ = drive.Read(d, 2); return d },
	"Read of 3":  func(d api.Dev) api.Dev { d, _ = drive.Read(d, 3); return d },
	"Read of 4":  func(d api.Dev) api.Dev { d, _ = drive.Read(d, 4); return d },
	"Write of 2": func(d api.Dev) api.Dev { return drive.Write(d, 2, 1) },
	"Write of 4": func(d api.Dev) api.Dev { return drive.Write(d, 4, 1) },
	"no command": func(d api.Dev) api.Dev { return drive.Write(d, 0, 16) },
	"no Skip":    func(d api.Dev) api.Dev { return drive.Skip(d, 0) },
	"back":       func(d api.Dev) api.Dev { return drive.Skip(d, -1) },
}

func TestConstants(t *testing.T) {
	got := []int{drive.Size, drive.Tracks, drive.Sectors, drive.Bytes, drive.Disk, drive.Start, drive.Byte, drive.In, drive.Back, drive.Fetch, drive.Store}
	if !slices.Equal(got, []int{4, 4, 4, 16, 256, 30, 20, 1, 2, 3, 4}) {
		t.Error(got)
	}
}

// P13.1: a rest of the disks is left out.
func TestNew(t *testing.T) {
	for _, x := range []struct{ length, want int }{{0, 0}, {1, 0}, {255, 0}, {256, 256}, {257, 256}, {511, 256}, {512, 512}, {1000, 768}, {4096, 4096}, {300 * size, 300 * size}, {300*size + 9, 300 * size}} {
		if d := drive.New(surface(x.length)); !same(d, api.Dev{N: make([]int, 10), Mem: surface(x.want)}) {
			t.Errorf("%d bytes: %d bytes, %v", x.length, len(d.Mem), d.N)
		}
	}
	if d := drive.New(nil); !same(d, api.Dev{N: make([]int, 10)}) {
		t.Error("no disks:", d)
	}
}

// outOfForm are states with missing numbers, further ones, numbers beyond their ranges, and a rest of bytes, and what their form is.
var outOfForm = []struct {
	d    api.Dev
	n    []int
	size int
}{
	{api.Dev{}, []int{0, 0, 0, 0, 0, 0, 0, 0, 0, 0}, 0},
	{api.Dev{Mem: surface(100)}, []int{0, 0, 0, 0, 0, 0, 0, 0, 0, 0}, 0},
	{api.Dev{Mem: surface(300)}, []int{0, 0, 0, 0, 0, 0, 0, 0, 0, 0}, 256},
	{chip(3), []int{3, 0, 0, 0, 0, 0, 0, 0, 0, 0}, 768},
	{chip(1, 2, 3, 1, 5, 6), []int{1, 2, 3, 1, 5, 6, 0, 0, 0, 0}, 768},
	{chip(1, 2, 4, 1, 5, 6, 7, 1, 1), []int{1, 2, 4, 1, 5, 6, 7, 1, 1, 0}, 768},
	{chip(1, 2, 4, 1, 5, 6, 7, 1, 1, 1, 5, 6), []int{1, 2, 4, 1, 5, 6, 7, 1, 1, 1}, 768},
	{chip(3, 3, 4, 3, 15, 63, 255, 1, 1, 1), []int{3, 3, 4, 3, 15, 63, 255, 1, 1, 1}, 768},
	{chip(256, 4, 8, 4, 16, 64, 256, 2, 2, 2), []int{0, 0, 0, 0, 0, 0, 0, 0, 0, 0}, 768},
	{chip(257, 5, 9, 5, 17, 65, 257, 3, 3, 3), []int{1, 1, 1, 1, 1, 1, 1, 1, 1, 1}, 768},
	{chip(-1, -1, -4, -1, -1, -1, -1, -1, -1, -1), []int{0, 3, 4, 3, 15, 63, 255, 1, 1, 1}, 768},
	{chip(-254, -2, -6, -2, -2, -2, -2, -2, -2, -2), []int{2, 2, 2, 2, 14, 62, 254, 0, 0, 0}, 768},
	{chip(-256, -4, -8, -4, -16, -64, -256, -2, -2, -2), []int{0, 0, 0, 0, 0, 0, 0, 0, 0, 0}, 768},
	{chip(-768+3, -5, -9+4, -5, -17, -65, -257, -3, -3, -3), []int{3, 3, 3, 3, 15, 63, 255, 1, 1, 1}, 768},
	{chip(math.MinInt, math.MinInt, math.MinInt, math.MinInt, math.MinInt, math.MinInt, math.MinInt, math.MinInt, math.MinInt, math.MinInt), []int{0, 0, 0, 0, 0, 0, 0, 0, 0, 0}, 768},
	{chip(math.MinInt+2, math.MaxInt, math.MinInt+2, math.MaxInt, math.MaxInt, math.MaxInt, math.MaxInt, math.MaxInt, math.MaxInt, math.MaxInt), []int{2, 3, 2, 3, 15, 63, 255, 1, 1, 1}, 768},
	// no such disk
	{chip(4, 1, 1), []int{0, 1, 1, 0, 0, 0, 0, 0, 0, 0}, 768},
	{chip(255, 1, 3), []int{0, 1, 3, 0, 0, 0, 0, 0, 0, 0}, 768},
	{api.Dev{N: []int{1}, Mem: surface(255)}, []int{0, 0, 0, 0, 0, 0, 0, 0, 0, 0}, 0},
	{api.Dev{N: []int{1}, Mem: surface(256)}, []int{1, 0, 0, 0, 0, 0, 0, 0, 0, 0}, 256},
	{api.Dev{N: []int{2}, Mem: surface(511)}, []int{0, 0, 0, 0, 0, 0, 0, 0, 0, 0}, 256},
	{api.Dev{N: []int{255}, Mem: surface(255*size - 1)}, []int{0, 0, 0, 0, 0, 0, 0, 0, 0, 0}, 254 * size},
	{api.Dev{N: []int{255}, Mem: surface(255 * size)}, []int{255, 0, 0, 0, 0, 0, 0, 0, 0, 0}, 255 * size},
	{api.Dev{N: []int{256}, Mem: surface(300 * size)}, []int{0, 0, 0, 0, 0, 0, 0, 0, 0, 0}, 300 * size},
	// no such command
	{chip(2, 1, 5), []int{2, 1, 0, 0, 0, 0, 0, 0, 0, 0}, 768},
	{chip(2, 1, 6, 3, 4, 5), []int{2, 1, 0, 3, 4, 5, 0, 0, 0, 0}, 768},
	{chip(2, 1, 7, 3, 4, 5, 6, 1, 1, 1), []int{2, 1, 0, 3, 4, 5, 6, 1, 1, 1}, 768},
	{chip(2, 1, -1), []int{2, 1, 0, 0, 0, 0, 0, 0, 0, 0}, 768},
}

// The form of states.
func TestForm(t *testing.T) {
	for _, x := range outOfForm {
		want := api.Dev{N: x.n, Mem: surface(x.size)}
		for name, f := range quiet {
			if d := f(x.d); !same(d, want) {
				t.Errorf("%s of %v: %v, not %v", name, x.d.N, d.N, x.n)
			}
		}
		for name, f := range keeping() {
			if got, want := f(x.d), f(want); !same(got, want) && name != "New" {
				t.Errorf("%s of %v: %v, not %v", name, x.d.N, got.N, want.N)
			}
		}
	}
}

// P13.1: the status, and that only a lost byte is cleared by reading it.
func TestReadStatus(t *testing.T) {
	for disks := range 4 {
		for c := range 5 {
			for flags := range 8 {
				d := with(disk, disks, command, c, ready, flags%2, lost, flags/2%2, control, flags/4, left, 9, data, 77)
				want := flags%2*2 + flags/2%2*4
				if c > 0 {
					want++
				}
				if disks == 0 {
					want += 8
				}
				if e, n := drive.Read(d, 0); n != want || !same(e, but(d, lost, 0)) {
					t.Errorf("%v: %d and %v, not %d", d.N, n, e.N, want)
				}
			}
		}
	}
	if n := read(chip(4), 0); n != 8 {
		t.Error("no such disk:", n)
	}
	if n := read(chip(1, 0, 5), 0); n != 0 {
		t.Error("no such command:", n)
	}
}

// P13.1: reading the data byte makes room for the next one, unless the command is Store.
func TestReadData(t *testing.T) {
	for c := range 5 {
		for is := range 2 {
			for _, n := range []int{0, 1, 127, 128, 255} {
				d := with(disk, 1, command, c, data, n, ready, is, lost, 1, control, 1, left, 3)
				want := but(d, ready, 0)
				if c == drive.Store {
					want = d
				}
				if e, got := drive.Read(d, 1); got != n || !same(e, want) {
					t.Errorf("%v: %d, %v", d.N, got, e.N)
				}
			}
		}
	}
}

// P13.1: the other registers.
func TestReadOthers(t *testing.T) {
	for k := range 4 {
		d := with(disk, 1, track, k, command, drive.Fetch, ready, 1, lost, 1)
		if e, n := drive.Read(d, 2); n != k || !same(e, d) {
			t.Errorf("track %d: %d, %v", k, n, e.N)
		}
	}
	for k := range 2 {
		d := with(disk, 1, track, 2, control, k, ready, 1, lost, 1)
		if e, n := drive.Read(d, 3); n != k || !same(e, d) {
			t.Errorf("control bit %d: %d, %v", k, n, e.N)
		}
	}
	d := chip(1, 2, 3, 1, 5, 6, 7, 1, 1, 1)
	for _, at := range append([]int{-1, -2, -3, -4, 4, 5, 6, 7, 256, 257, 65537}, extremes...) {
		if e, n := drive.Read(d, at); n != 0 || !same(e, d) {
			t.Errorf("register %d: %d, %v", at, n, e.N)
		}
	}
}

// lowest are numbers to write, and their lowest eight bits.
var lowest = []struct{ k, low int }{
	{0, 0}, {1, 1}, {15, 15}, {16, 16}, {0x5A, 0x5A}, {255, 255}, {256, 0}, {257, 1}, {0xFAB, 0xAB}, {-1, 255}, {-2, 254}, {-16, 240}, {-256, 0},
	{math.MinInt, 0}, {math.MinInt + 7, 7}, {math.MaxInt, 255}, {math.MaxInt - 7, 248},
}

// P13.2: the data byte is not ready any more if the command is Store, otherwise that stays.
func TestWriteData(t *testing.T) {
	for _, x := range lowest {
		for c := range 5 {
			for is := range 2 {
				d := with(disk, 1, command, c, data, 99, ready, is, lost, 1, control, 1, left, 3)
				want := but(d, data, x.low)
				if c == drive.Store {
					want = but(want, ready, 0)
				}
				if e := drive.Write(d, 1, x.k); !same(e, want) {
					t.Errorf("%d into %v: %v", x.k, d.N, e.N)
				}
			}
		}
	}
}

// P13.2: the control bit, the track, and no registers.
func TestWriteOthers(t *testing.T) {
	for _, x := range lowest {
		for k := range 2 {
			d := with(disk, 1, track, 2, command, k*3, control, k, ready, 1, lost, 1)
			if e := drive.Write(d, 3, x.k); !same(e, but(d, control, x.low%2)) {
				t.Errorf("%d into %v: %v", x.k, d.N, e.N)
			}
			for _, at := range append([]int{-1, -2, -3, -4, 2, 4, 5, 6, 7, 256, 257, 65537}, extremes...) {
				if e := drive.Write(d, at, x.k); !same(e, d) {
					t.Errorf("%d into register %d: %v", x.k, at, e.N)
				}
			}
		}
	}
}

// P13.2: all bytes as commands, with a disk and without one.
func TestBegin(t *testing.T) {
	for c := range 256 {
		for in := range 2 {
			for is := range 2 {
				d := with(disk, in*2, track, 1, sector, 1, done, 5, left, 17, data, 88, ready, is, lost, 1, control, 1)
				want := d
				switch kind := c % 16; {
				case kind == 1 || kind == 2 || kind == 3 && in == 1:
					want = but(d, command, kind, sector, c/16%4, done, 0, left, 30, ready, 0)
				case kind == 4 && in == 1:
					want = but(d, command, kind, sector, c/16%4, done, 0, left, 30, ready, 1)
				}
				for _, more := range []int{0, 256, -256, 1 << 40, -1 << 40} {
					if e := drive.Write(d, 0, c+more); !same(e, want) {
						t.Errorf("command %d+%d of %v: %v, not %v", c, more, d.N, e.N, want.N)
					}
				}
			}
		}
	}
}

// P13.2: no command begins while there is one.
func TestBeginTwice(t *testing.T) {
	for c := 1; c < 5; c++ {
		for next := range 80 {
			for in := range 2 {
				d := with(disk, in, track, 1, command, c, sector, 1, done, 5, left, 17, lost, 1, ready, next%2)
				if e := drive.Write(d, 0, next); !same(e, d) {
					t.Errorf("command %d in %v: %v", next, d.N, e.N)
				}
			}
		}
	}
	// This is none.
	if e := drive.Write(with(disk, 1, command, 5), 0, 2); !same(e, with(disk, 1, command, 2, left, 30)) {
		t.Error(e.N)
	}
}

// P13.2: a disk that there is not cannot be in the drive, and a command begun needs one.
func TestBeginWithoutDisk(t *testing.T) {
	for c := range 5 {
		d := but(with(), disk, 4)
		want := with()
		if c == 1 || c == 2 {
			want = with(command, c, left, 30)
		}
		if e := drive.Write(d, 0, c); !same(e, want) {
			t.Errorf("command %d: %v", c, e.N)
		}
	}
}

// P13.2
func TestChange(t *testing.T) {
	for _, x := range []struct{ k, want int }{
		{0, 0}, {1, 1}, {2, 2}, {3, 3}, {4, 0}, {5, 0}, {255, 0}, {256, 0}, {257, 1}, {259, 3}, {260, 0}, {512, 0}, {513, 1},
		{-1, 0}, {-252, 0}, {-253, 3}, {-254, 2}, {-255, 1}, {-256, 0}, {math.MaxInt, 0}, {math.MinInt, 0}, {math.MinInt + 3, 3}, {math.MinInt + 4, 0},
	} {
		for before := range 4 {
			d := with(disk, before, track, 2, sector, 1, done, 5, left, 17, data, 88, ready, 1, lost, 1, control, 1)
			if e := drive.Change(d, x.k); !same(e, but(d, disk, x.want)) {
				t.Errorf("disk %d after %d: %v", x.k, before, e.N)
			}
			for c := 1; c < 5; c++ {
				d := but(d, command, c)
				if e := drive.Change(d, x.k); !same(e, d) {
					t.Errorf("disk %d after %d in command %d: %v", x.k, before, c, e.N)
				}
			}
		}
	}
	many := drive.New(surface(300 * size))
	for _, k := range []int{1, 255, 256, 257, 300} {
		if d := drive.Change(many, k); !same(d, but(many, disk, k%256)) {
			t.Errorf("disk %d of 300: %v", k, d.N)
		}
	}
	if d := drive.Change(with(command, 6), 2); !same(d, with(disk, 2)) {
		t.Error("no such command:", d.N)
	}
	if d := drive.Change(drive.New(nil), 1); !same(d, drive.New(nil)) {
		t.Error("no disks:", d.N)
	}
}

// P13.3: without a command nothing happens.
func TestTickIdle(t *testing.T) {
	for _, d := range []api.Dev{with(), with(disk, 1, left, 1), chip(2, 3, 0, 2, 15, 40, 200, 1, 1, 1), with(left, 0, done, 15), with(left, 63)} {
		for _, k := range []int{1, 2, 30, 100000, math.MaxInt} {
			if e := drive.Skip(d, k); !same(e, d) || !same(drive.Tick(d), d) {
				t.Errorf("%v after %d cycles: %v", d.N, k, e.N)
			}
		}
	}
}

// P13.3: Fetch and Store without a disk end at once, and nothing else changes.
func TestTickWithoutDisk(t *testing.T) {
	for _, c := range []int{3, 4} {
		for n := range 64 {
			d := with(command, c, track, 2, sector, 1, done, 15, left, n, data, 88, ready, n%2, lost, n/2%2, control, 1)
			for _, gone := range []int{0, 4, 255} {
				d := but(d, disk, gone)
				want := but(d, disk, 0, command, 0)
				if e := drive.Tick(d); !same(e, want) {
					t.Errorf("%v: %v", d.N, e.N)
				}
				for _, k := range []int{2, 20, 1000, math.MaxInt} {
					if e := drive.Skip(d, k); !same(e, want) {
						t.Errorf("%v after %d cycles: %v", d.N, k, e.N)
					}
				}
			}
		}
	}
}

// P13.3: while more than one cycle is left, it becomes one less.
func TestTickWaits(t *testing.T) {
	for c := 1; c < 5; c++ {
		for n := 2; n < 64; n++ {
			d := with(disk, 1, track, 2, command, c, sector, 1, done, 15, left, n, data, 88, ready, 1, control, 1)
			if e := drive.Tick(d); !same(e, but(d, left, n-1)) {
				t.Errorf("%v: %v", d.N, e.N)
			}
		}
	}
}

// P13.3: the drive steps from track to track, with and without a disk.
func TestTickSteps(t *testing.T) {
	for _, x := range []struct{ c, from, to int }{{1, 0, 1}, {1, 1, 2}, {1, 2, 3}, {1, 3, 3}, {2, 3, 2}, {2, 2, 1}, {2, 1, 0}, {2, 0, 0}} {
		for n := range 2 {
			for in := range 4 {
				d := with(disk, in, track, x.from, command, x.c, sector, 2, done, 15, left, n, data, 88, ready, 1, lost, n, control, 1)
				want := but(d, track, x.to, command, 0, left, 0)
				if e := drive.Tick(d); !same(e, want) {
					t.Errorf("%v: %v, not %v", d.N, e.N, want.N)
				}
			}
		}
	}
}

// place is where a byte of a sector stands.
func place(in, t, s, n int) int {
	return (in-1)*256 + (t*4+s)*16 + n
}

// P13.3: each byte of each sector, fetched.
func TestTickFetches(t *testing.T) {
	for in := 1; in < 4; in++ {
		for at := range 256 {
			for flags := range 8 {
				d := with(disk, in, track, at/64, command, 3, sector, at/16%4, done, at%16, left, flags%2, data, 88, ready, flags/2%2, lost, flags/4, control, 1)
				n := int(d.Mem[place(in, at/64, at/16%4, at%16)])
				want := but(d, done, at%16+1, left, 20, data, n, ready, 1, lost, flags/2%2|flags/4)
				if at%16 == 15 {
					want = but(want, command, 0, done, 0, left, 0)
				}
				if e := drive.Tick(d); !same(e, want) {
					t.Errorf("%v: %v, not %v", d.N, e.N, want.N)
				}
			}
		}
	}
}

// P13.3: each byte of each sector, stored.
func TestTickStores(t *testing.T) {
	for in := 1; in < 4; in++ {
		for at := range 256 {
			for flags := range 8 {
				n := at ^ 0xA5
				d := with(disk, in, track, at/64, command, 4, sector, at/16%4, done, at%16, left, flags%2, data, n, ready, flags/2%2, lost, flags/4, control, 1)
				want := but(d, done, at%16+1, left, 20, ready, 1, lost, flags/2%2|flags/4)
				want.Mem[place(in, at/64, at/16%4, at%16)] = byte(n)
				if at%16 == 15 {
					want = but(want, command, 0, done, 0, left, 0, ready, 0)
				}
				if e := drive.Tick(d); !same(e, want) {
					t.Errorf("%v: %v, not %v", d.N, e.N, want.N)
				}
			}
		}
	}
}

// P13.3: Skip does nothing if k is below 1.
func TestNoSkip(t *testing.T) {
	for _, k := range []int{0, -1, -2, -api.MaxRun, math.MinInt} {
		for c := range 5 {
			d := chip(1, 2, c, 1, 15, c%2, 7, 1, 0, 1)
			if e := drive.Skip(d, k); !same(e, d) {
				t.Errorf("%d cycles of %v: %v", k, d.N, e.N)
			}
		}
	}
}

// P13.3: however many cycles pass, a command ends only once.
func TestSkipFar(t *testing.T) {
	for _, k := range []int{30 + 20*15, 331, 1000, api.MaxRun, 100 * api.MaxRun, 1 << 40, math.MaxInt - 1, math.MaxInt} {
		d := with(disk, 2, track, 1)
		if e := drive.Skip(drive.Write(d, 0, drive.Fetch+16*2), k); !same(e, but(d, sector, 2, data, int(d.Mem[place(2, 1, 2, 15)]), ready, 1, lost, 1)) {
			t.Errorf("fetched in %d cycles: %v", k, e.N)
		}
		want := but(d, sector, 2, data, 9, lost, 1)
		for n := range 16 {
			want.Mem[place(2, 1, 2, n)] = 9
		}
		if e := drive.Skip(drive.Write(drive.Write(d, 0, drive.Store+16*2), 1, 9), k); !same(e, want) {
			t.Errorf("stored in %d cycles: %v", k, e.N)
		}
		if e := drive.Skip(drive.Write(d, 0, drive.In), k); !same(e, but(d, track, 2)) {
			t.Errorf("one step in %d cycles: %v", k, e.N)
		}
	}
}

// P13.3: when which bytes are fetched, all of them in time.
func TestFetchInTime(t *testing.T) {
	d := drive.Write(drive.Change(drive.New(surface(size)), 1), 0, drive.Fetch+16*3)
	for cycle := 1; cycle <= 330; cycle++ {
		d = drive.Tick(d)
		comes := cycle >= 30 && (cycle-30)%20 == 0
		if is := read(d, 0)&2 != 0; is != comes {
			t.Fatalf("after %d cycles: %v", cycle, d.N)
		}
		if comes {
			var n int
			if d, n = drive.Read(d, 1); n != int(d.Mem[48+(cycle-30)/20]) {
				t.Errorf("after %d cycles: %d", cycle, n)
			}
		}
	}
	if n := read(d, 0); n != 0 {
		t.Error("status", n)
	}
}

// P13.3: bytes that are stored in time, none of which is lost.
func TestStoreInTime(t *testing.T) {
	d := drive.Write(drive.Change(drive.New(surface(size)), 1), 0, drive.Store+16*3)
	want := surface(size)
	for n := range 16 {
		if s := read(d, 0); s != 3 {
			t.Fatalf("status before byte %d: %d", n, s)
		}
		d = drive.Write(d, 1, 200+n)
		want[48+n] = byte(200 + n)
		if s := read(d, 0); s != 1 {
			t.Fatalf("status behind byte %d: %d", n, s)
		}
		if d = drive.Skip(d, 20); n == 0 {
			d = drive.Skip(d, 10)
		}
	}
	if n := read(d, 0); n != 0 || !slices.Equal(d.Mem, want) {
		t.Error("status", n, d.Mem)
	}
}

// P13.4
func TestNext(t *testing.T) {
	for n := range 64 {
		for in := range 2 {
			for c := range 5 {
				want := max(1, n) - 1
				if c == 0 {
					want = api.MaxRun
				}
				if got := drive.Next(with(disk, in, command, c, left, n)); got != want {
					t.Errorf("command %d, %d left: %d, not %d", c, n, got, want)
				}
			}
			for c := 5; c < 8; c++ {
				if got := drive.Next(with(disk, in, command, c, left, n)); got != api.MaxRun {
					t.Errorf("no command %d: %d", c, got)
				}
			}
		}
	}
	for _, x := range []struct{ left, want int }{{64, 0}, {66, 1}, {-1, 62}, {-64, 0}, {math.MaxInt, 62}, {math.MinInt, 0}} {
		if got := drive.Next(with(disk, 1, command, 8+3, left, x.left)); got != x.want {
			t.Errorf("%d left: %d, not %d", x.left, got, x.want)
		}
	}
}

// P13.4
func TestIrq(t *testing.T) {
	for k := range 4 {
		for c := range 5 {
			for more := -2; more < 3; more++ {
				d := with(disk, 1, command, c, lost, 1, ready, k%2+2*more, control, k/2-2*more)
				if is := drive.Irq(d); is != (k == 3) {
					t.Errorf("%v: %v", d.N, is)
				}
			}
		}
	}
	if drive.Irq(api.Dev{}) || drive.Irq(chip(1, 1, 1, 1, 1, 1, 1, 1, 1)) {
		t.Error("no control bit")
	}
}

// P13.4
func TestOut(t *testing.T) {
	for _, x := range []struct{ track, want int }{{0, 0}, {1, 1}, {2, 2}, {3, 3}, {4, 0}, {7, 3}, {-1, 3}, {-2, 2}, {math.MaxInt, 3}, {math.MinInt, 0}} {
		if n := drive.Out(chip(1, x.track, 2, 3)); n != x.want {
			t.Errorf("track %d: %d", x.track, n)
		}
	}
	if n := drive.Out(api.Dev{}); n != 0 {
		t.Error("no track:", n)
	}
}

// The chapter's example: Fetch makes the first byte ready after 30 cycles.
func TestExample(t *testing.T) {
	d := drive.Write(drive.Change(drive.New(surface(size)), 1), 0, drive.Fetch)
	for cycle := 1; cycle <= 30; cycle++ {
		if d = drive.Tick(d); read(d, 0)&2 != cycle/30*2 {
			t.Errorf("after %d cycles: %d", cycle, read(d, 0))
		}
	}
	if read(d, 1) != int(surface(1)[0]) {
		t.Error(read(d, 1))
	}
}

// keeping are functions that use a state in all ways, also those that return none.
func keeping() map[string]func(d api.Dev) api.Dev {
	all := maps.Clone(quiet)
	all["New"] = func(d api.Dev) api.Dev { return drive.New(d.Mem) }
	all["Tick"] = drive.Tick
	all["Skip"] = func(d api.Dev) api.Dev { return drive.Skip(d, 100) }
	all["Next"] = func(d api.Dev) api.Dev { return chip(drive.Next(d)) }
	all["Out"] = func(d api.Dev) api.Dev { return chip(drive.Out(d)) }
	all["Irq"] = func(d api.Dev) api.Dev {
		if drive.Irq(d) {
			return chip(1)
		}
		return chip(0)
	}
	for k := range 5 {
		all["Read of "+strconv.Itoa(k)] = func(d api.Dev) api.Dev { d, _ = drive.Read(d, k); return d }
		all["Write of "+strconv.Itoa(k)] = func(d api.Dev) api.Dev { return drive.Write(d, k, 35) }
		all["Change to "+strconv.Itoa(k)] = func(d api.Dev) api.Dev { return drive.Change(d, k) }
		all["command "+strconv.Itoa(k)] = func(d api.Dev) api.Dev { return drive.Write(d, 0, k) }
	}
	return all
}

// spoil overwrites a state, and what is behind it.
func spoil(d api.Dev) {
	n, mem := d.N[:cap(d.N)], d.Mem[:cap(d.Mem)]
	for at := range n {
		n[at] = 99
	}
	for at := range mem {
		mem[at] = 99
	}
}

// Z2: the states of arguments stay, and those of results are new memory.
func TestNewMemory(t *testing.T) {
	kept := []int{2, 3, 4, 1, 5, 1, 66, 1, 0, 1, 4, 5}
	for name, f := range keeping() {
		for length := range len(kept) + 1 {
			for _, bytes := range []int{0, 255, 256, 600, 768} {
				d := api.Dev{N: slices.Clone(kept)[:length], Mem: surface(800)[:bytes]}
				first := f(d)
				want := api.Dev{N: slices.Clone(first.N), Mem: slices.Clone(first.Mem)}
				spoil(f(d))
				if !same(first, want) {
					t.Errorf("%s of %d numbers and %d bytes shares memory", name, length, bytes)
				}
				if !slices.Equal(d.N[:len(kept)], kept) || !slices.Equal(d.Mem[:800], surface(800)) {
					t.Errorf("%s of %d numbers and %d bytes has changed them", name, length, bytes)
				}
			}
		}
	}
}
