package video_test

import (
	"math"
	"slices"
	"strconv"
	"testing"

	"bakelite/api"
	"bakelite/video"
)

// noRegisters are numbers without a register, near and far.
var noRegisters = []int{32, 33, 36, 39, 40, 64, -1, -2, -5, -32, -256, 255, 256, 259, 65536, 65539, 1 << 32, -1 << 32, math.MinInt, math.MinInt + 3, math.MaxInt}

// lowest are numbers and the lowest eight bits of them.
var lowest = []struct {
	data int
	want byte
}{
	{0, 0}, {1, 1}, {16, 16}, {65, 65}, {255, 255}, {256, 0}, {300, 44}, {-1, 255}, {-2, 254}, {-256, 0}, {-257, 255},
	{1 << 32, 0}, {-1<<32 + 77, 77}, {math.MinInt, 0}, {math.MinInt + 9, 9}, {math.MaxInt, 255}, {math.MaxInt - 1, 254},
}

// registers are bytes for the registers, of which all but the first ones are 0.
func registers(first ...byte) []byte {
	return slices.Concat(first, make([]byte, 32-len(first)))
}

// chip is a state at a position, with the first ones of its registers.
func chip(position, hit int, first ...byte) api.Dev {
	return api.Dev{N: []int{position, hit}, Mem: registers(first...)}
}

// with is a state with another byte in a register.
func with(d api.Dev, at int, data byte) api.Dev {
	d.Mem = slices.Clone(d.Mem)
	d.Mem[at] = data
	return d
}

// counted are 32 bytes that differ, none of which is 0.
func counted() []byte {
	mem := registers()
	for at := range mem {
		mem[at] = byte(101 + at)
	}
	return mem
}

// same reports whether two states have the same numbers and bytes.
func same(d, e api.Dev) bool {
	return slices.Equal(d.N, e.N) && slices.Equal(d.Mem, e.Mem)
}

// place is the position of a dot of a line.
func place(line, dot int) int {
	return line*64 + dot
}

// reading is the state that is left when a register has been read.
func reading(at int) func(d api.Dev) api.Dev {
	return func(d api.Dev) api.Dev { d, _ = video.Read(d, at); return d }
}

// writing is the state when a register has been written.
func writing(at, data int) func(d api.Dev) api.Dev {
	return func(d api.Dev) api.Dev { return video.Write(d, at, data) }
}

// waiting is the state some cycles later.
func waiting(k int) func(d api.Dev) api.Dev {
	return func(d api.Dev) api.Dev { return video.Skip(d, k) }
}

func TestConstants(t *testing.T) {
	if video.Size != 32 || video.Line != 64 || video.Lines != 40 || video.Wide != 48 || video.High != 32 || video.Period != 2560 {
		t.Error(video.Size, video.Line, video.Lines, video.Wide, video.High, video.Period)
	}
	if all := []int{video.Border, video.X, video.Y, video.Color, video.Shape, video.AtLine, video.AtDot, video.Hits, video.Cells}; !slices.Equal(all, []int{0, 1, 2, 3, 4, 5, 6, 7, 8}) {
		t.Error(all)
	}
}

// P11.2
func TestNew(t *testing.T) {
	if d := video.New(); !same(d, chip(2559, 0)) {
		t.Error(d)
	}
}

// outOfForm are states with missing numbers or bytes, further ones, or numbers beyond their ranges, and the states that they stand for.
var outOfForm = []struct{ d, want api.Dev }{
	{api.Dev{}, chip(2559, 0)},
	{api.Dev{N: []int{}, Mem: []byte{}}, chip(2559, 0)},
	{api.Dev{N: []int{5}}, chip(5, 0)},
	{api.Dev{N: []int{0}}, chip(0, 0)},
	{api.Dev{N: []int{5, 1}}, chip(5, 1)},
	{api.Dev{Mem: []byte{1, 2, 3}}, chip(2559, 0, 1, 2, 3)},
	{api.Dev{N: []int{5, 1, 7, 8}, Mem: counted()[:31]}, chip(5, 1, counted()[:31]...)},
	{api.Dev{N: []int{5, 1}, Mem: append(counted(), 7)}, chip(5, 1, counted()...)},
	{api.Dev{N: []int{5, 1}, Mem: slices.Repeat(counted(), 3)}, chip(5, 1, counted()...)},
	{chip(2559, 1, 1), chip(2559, 1, 1)},
	{chip(2560, 2, 1), chip(0, 0, 1)},
	{chip(2561, 3, 1), chip(1, 1, 1)},
	{chip(4096, 4), chip(1536, 0)},
	{chip(5119, 255), chip(2559, 1)},
	{chip(5120, 256), chip(0, 0)},
	{chip(-1, -1), chip(2559, 1)},
	{chip(-2, -2), chip(2558, 0)},
	{chip(-2559, -3), chip(1, 1)},
	{chip(-2560, -4), chip(0, 0)},
	{chip(-2561, -5), chip(2559, 1)},
	{chip(2560<<40+9, 1<<40+1), chip(9, 1)},
	{chip(-2560<<40+9, -1<<40+1), chip(9, 1)},
	// 2^63 is 2048 modulo 2560.
	{chip(math.MinInt, math.MinInt), chip(512, 0)},
	{chip(math.MinInt+1, math.MinInt+1), chip(513, 1)},
	{chip(math.MaxInt, math.MaxInt), chip(2047, 1)},
	{chip(math.MaxInt-1, math.MaxInt-1), chip(2046, 0)},
}

// The form of states, whatever is done with them: what a function says nothing of is kept.
func TestForm(t *testing.T) {
	keep := func(d api.Dev) api.Dev { return d }
	for _, x := range outOfForm {
		for name, does := range map[string]struct{ f, change func(d api.Dev) api.Dev }{
			"Read of 0":   {reading(0), keep},
			"Read of 5":   {reading(5), keep},
			"Read of 6":   {reading(6), keep},
			"Read of 7":   {reading(7), func(d api.Dev) api.Dev { return api.Dev{N: []int{d.N[0], 0}, Mem: d.Mem} }},
			"Read of 31":  {reading(31), keep},
			"Read of 32":  {reading(32), keep},
			"Write of 3":  {writing(3, 77), func(d api.Dev) api.Dev { return with(d, 3, 77) }},
			"Write of 5":  {writing(5, 77), keep},
			"Write of 31": {writing(31, 77), func(d api.Dev) api.Dev { return with(d, 31, 77) }},
			"Write of 32": {writing(32, 77), keep},
			"Write of -1": {writing(-1, 77), keep},
			"no Skip":     {waiting(0), keep},
			"Skip":        {waiting(-1), keep},
		} {
			if d, want := does.f(x.d), does.change(x.want); !same(d, want) {
				t.Errorf("%s of %v: %v, not %v", name, x.d, d, want)
			}
		}
	}
}

// What is read of states that are not in their form, and what happens to them, is what those in their form have.
func TestOthersAsInForm(t *testing.T) {
	for _, x := range outOfForm {
		for at := -1; at < 34; at++ {
			_, got := video.Read(x.d, at)
			if _, want := video.Read(x.want, at); got != want {
				t.Errorf("register %d of %v: %d, not %d", at, x.d, got, want)
			}
		}
		if got, want := video.Out(x.d), video.Out(x.want); got != want {
			t.Errorf("Out of %v: %d, not %d", x.d, got, want)
		}
		if got, want := video.Next(x.d), video.Next(x.want); got != want {
			t.Errorf("Next of %v: %d, not %d", x.d, got, want)
		}
		for _, k := range []int{1, 2, 700, 2560} {
			if got, want := video.Skip(x.d, k), video.Skip(x.want, k); !same(got, want) {
				t.Errorf("%v after %d cycles: %v, not %v", x.d, k, got, want)
			}
		}
		if got := video.Tick(x.d); got.N[0] != (x.want.N[0]+1)%2560 {
			t.Errorf("Tick of %v: %v", x.d, got)
		}
	}
}

// P11.2: registers that keep their bytes, whatever the position and whether or not there was a hit.
func TestRead(t *testing.T) {
	for hit := range 2 {
		for at := range 32 {
			if at >= 5 && at <= 7 {
				continue
			}
			want := chip(777, hit, counted()...)
			if d, n := video.Read(want, at); n != 101+at || !same(d, want) {
				t.Errorf("register %d: %d, %v", at, n, d)
			}
		}
	}
	if _, n := video.Read(chip(0, 0, 255), 0); n != 255 {
		t.Error(n)
	}
}

// P11.2: the line and the dot of all positions. The bytes in their place in Mem are not shown.
func TestReadOfPosition(t *testing.T) {
	for line := range 40 {
		for dot := range 64 {
			d := chip(place(line, dot), 1, counted()...)
			e, n := video.Read(d, video.AtLine)
			if n != line || !same(e, d) {
				t.Errorf("line %d, dot %d: %d, %v", line, dot, n, e)
			}
			if e, n = video.Read(d, video.AtDot); n != dot || !same(e, d) {
				t.Errorf("line %d, dot %d: %d, %v", line, dot, n, e)
			}
		}
	}
}

// P11.2: a hit is cleared by reading it, so that it is read once.
func TestReadOfHits(t *testing.T) {
	for hit := range 2 {
		d, first := video.Read(chip(777, hit, counted()...), video.Hits)
		if first != hit || !same(d, chip(777, 0, counted()...)) {
			t.Errorf("%d: %d, %v", hit, first, d)
		}
		d, second := video.Read(d, video.Hits)
		if second != 0 || !same(d, chip(777, 0, counted()...)) {
			t.Errorf("%d, again: %d, %v", hit, second, d)
		}
	}
}

// P11.2: numbers that are no registers, and those that are only read.
func TestNoRegister(t *testing.T) {
	for hit := range 2 {
		want := chip(777, hit, counted()...)
		for _, at := range noRegisters {
			if d, n := video.Read(want, at); n != 0 || !same(d, want) {
				t.Errorf("Read of %d: %d, %v", at, n, d)
			}
		}
		for _, at := range append([]int{5, 6, 7}, noRegisters...) {
			for _, x := range lowest {
				if d := video.Write(want, at, x.data); !same(d, want) {
					t.Errorf("Write of %d: %v", at, d)
				}
			}
		}
	}
}

// P11.2: of data the lowest eight bits, for each register. Writing what is under the sprite is no hit.
func TestWrite(t *testing.T) {
	for at := range 32 {
		if at >= 5 && at <= 7 {
			continue
		}
		for _, x := range lowest {
			for hit := range 2 {
				d := video.Write(chip(777, hit, counted()...), at, x.data)
				if !same(d, with(chip(777, hit, counted()...), at, x.want)) {
					t.Errorf("%d into register %d: %v", x.data, at, d)
				}
				if _, n := video.Read(d, at); n != int(x.want) {
					t.Errorf("%d into register %d: %d", x.data, at, n)
				}
			}
		}
	}
}

// P11.1: each cell has its own register, and eight times eight dots of its own.
func TestCells(t *testing.T) {
	for row := range 4 {
		for column := range 6 {
			mem := slices.Repeat([]byte{2}, 32)
			mem[video.Shape] = 0
			mem[8+6*row+column] = 0xC7
			for position := range 2560 {
				line, dot := position/64, position%64
				want := 2
				if line >= 8*row && line < 8*row+8 && dot >= 8*column && dot < 8*column+8 {
					want = 7
				}
				if n := video.Out(chip(position, 0, mem...)); n != want {
					t.Fatalf("cell %d, %d: %d at %d, %d", row, column, n, line, dot)
				}
			}
		}
	}
}

// P11.1: the border is where the dot is not below Wide, or the line not below High.
func TestBorder(t *testing.T) {
	// A sprite with a color of its own lies over the last visible dot.
	mem := append([]byte{0xA1, 45, 29, 3, 255, 0, 0, 0}, slices.Repeat([]byte{2}, 24)...)
	for _, x := range []struct{ line, dot, want int }{
		{0, 0, 2}, {0, 47, 2}, {0, 48, 1}, {0, 63, 1}, {1, 0, 2}, {31, 0, 2}, {31, 44, 2}, {32, 0, 1}, {39, 0, 1}, {39, 63, 1}, {33, 63, 1},
		{28, 45, 2}, {29, 45, 3}, {29, 47, 3}, {29, 48, 1}, {31, 47, 3}, {31, 48, 1}, {32, 45, 1}, {32, 47, 1}, {32, 48, 1}, {35, 52, 1},
	} {
		if n := video.Out(chip(place(x.line, x.dot), 0, mem...)); n != x.want {
			t.Errorf("line %d, dot %d: %d, not %d", x.line, x.dot, n, x.want)
		}
	}
}

// P11.1: of the border, the sprite and the cells the low four bits.
func TestColors(t *testing.T) {
	for n := range 256 {
		border, sprite, cell := chip(48, 0, byte(n)), chip(0, 0, 1, 0, 0, byte(n), 128), with(chip(0, 0, 1, 0, 0, 2), 8, byte(n))
		if video.Out(border) != n%16 || video.Out(sprite) != n%16 || video.Out(cell) != n%16 {
			t.Errorf("%d: %d, %d, %d", n, video.Out(border), video.Out(sprite), video.Out(cell))
		}
	}
}

// P11.1: the highest bit of a shape is its left dot, and all eight lines are the same.
func TestShapes(t *testing.T) {
	for shape := range 256 {
		for down := -1; down < 9; down++ {
			for right := -1; right < 9; right++ {
				want := 0
				if down >= 0 && down < 8 && right >= 0 && right < 8 && shape&(128>>right) != 0 {
					want = 5
				}
				if n := video.Out(chip(place(13+down, 21+right), 0, 1, 21, 13, 5, byte(shape))); n != want {
					t.Errorf("shape %d at %d, %d: %d", shape, down, right, n)
				}
			}
		}
	}
}

// P11.1 and P11.3: how many dots of a sprite are seen, and whether it hits the cells. Neither the border of a line nor that of a frame is crossed.
func TestSpriteAtEdges(t *testing.T) {
	for _, x := range []struct {
		x, y byte
		want int
	}{
		{0, 0, 64}, {1, 1, 64}, {40, 24, 64}, {41, 24, 56}, {40, 25, 56}, {41, 25, 49}, {47, 31, 1}, {47, 0, 8}, {0, 31, 8}, {48, 0, 0}, {0, 32, 0}, {48, 32, 0},
		{63, 5, 0}, {64, 5, 0}, {57, 5, 0}, {255, 0, 0}, {0, 255, 0}, {255, 255, 0}, {249, 250, 0}, {5, 39, 0}, {5, 40, 0}, {5, 33, 0}, {128, 5, 0}, {5, 64, 0},
	} {
		mem := append([]byte{1, x.x, x.y, 3, 255, 0, 0, 0}, slices.Repeat([]byte{2}, 24)...)
		seen := 0
		for position := range 2560 {
			if video.Out(chip(position, 0, mem...)) == 3 {
				seen++
			}
		}
		if seen != x.want {
			t.Errorf("at %d, %d: %d dots, not %d", x.x, x.y, seen, x.want)
		}
		if _, hit := video.Read(video.Skip(chip(9, 0, mem...), 2560), video.Hits); hit != min(x.want, 1) {
			t.Errorf("at %d, %d: hit %d", x.x, x.y, hit)
		}
	}
}

// P11.3
func TestTick(t *testing.T) {
	for _, x := range []struct{ from, to int }{{2559, 0}, {0, 1}, {62, 63}, {63, 64}, {2047, 2048}, {2558, 2559}} {
		for hit := range 2 {
			if d := video.Tick(chip(x.from, hit, 1, 99, 99, 4, 5, 6, 7, 8, 9)); !same(d, chip(x.to, hit, 1, 99, 99, 4, 5, 6, 7, 8, 9)) {
				t.Errorf("%d: %v", x.from, d)
			}
		}
	}
}

// P11.3: what a hit needs.
func TestHits(t *testing.T) {
	// A sprite of one column at 10, 20, over a cell of color 1, before the position 10, 20.
	hit := with(chip(place(20, 9), 0, 4, 10, 20, 0, 128), 8+6*2+1, 1)
	for _, x := range []struct {
		name string
		d    api.Dev
		want int
	}{
		{"all", hit, 1},
		{"the sprite has the color of the cell", with(hit, video.Color, 1), 1},
		{"only the highest of four bits is set", with(hit, 8+6*2+1, 8), 1},
		{"all bits are set", with(hit, 8+6*2+1, 255), 1},
		{"the low four bits of the cell are 0", with(hit, 8+6*2+1, 0xF0), 0},
		{"the cell is 0", with(hit, 8+6*2+1, 0), 0},
		{"only the cell to the left is not 0", with(with(hit, 8+6*2+1, 0), 8+6*2, 1), 0},
		{"the dot is not in the shape", with(hit, video.Shape, 127), 0},
		{"no shape", with(hit, video.Shape, 0), 0},
		{"the whole shape", with(hit, video.Shape, 255), 1},
		{"the sprite begins one dot later", with(hit, video.X, 11), 0},
		{"the last dot of the sprite", with(with(hit, video.X, 3), video.Shape, 1), 1},
		{"one dot behind the sprite", with(with(hit, video.X, 2), video.Shape, 255), 0},
		{"the sprite begins one line later", with(hit, video.Y, 21), 0},
		{"the last line of the sprite", with(hit, video.Y, 13), 1},
		{"one line behind the sprite", with(hit, video.Y, 12), 0},
		{"the old position is covered, not the new one", with(hit, video.X, 9), 0},
		{"a hit before that", chip(place(20, 9), 1), 1},
	} {
		if d := video.Tick(x.d); d.N[1] != x.want || !slices.Equal(d.Mem, x.d.Mem) {
			t.Errorf("%s: %v", x.name, d)
		}
	}
	if d := video.Skip(hit, 0); d.N[1] != 0 {
		t.Errorf("no cycle: %v", d)
	}
}

// P11.3: a hit that has been read comes again in the next frame, and in each line before it.
func TestHitsAgain(t *testing.T) {
	d := with(chip(2559, 0, 0, 0, 0, 1, 128), 8, 1)
	for n, want := range []int{1, 1, 1, 1, 1, 1, 1, 1, 0, 0} {
		if d = video.Skip(d, 1); d.N[1] != want {
			t.Errorf("line %d: %v", n, d)
		}
		d, _ = video.Read(d, video.Hits)
		if d = video.Skip(d, 63); d.N[1] != 0 {
			t.Errorf("behind the sprite in line %d: %v", n, d)
		}
	}
	if d = video.Skip(d, 64*30); d.N[1] != 0 {
		t.Errorf("the end of the frame: %v", d)
	}
	if d = video.Tick(d); !same(d, with(chip(0, 1, 0, 0, 0, 1, 128), 8, 1)) {
		t.Errorf("the next frame: %v", d)
	}
}

// P11.3: Skip does nothing if k is below 1.
func TestNoSkip(t *testing.T) {
	for _, k := range []int{0, -1, -2, -2559, -2560, -65536, math.MinInt} {
		for hit := range 2 {
			want := with(chip(9, hit, 0, 10, 0, 1, 255), 8+1, 1)
			if d := video.Skip(want, k); !same(d, want) {
				t.Errorf("%d: %v", k, d)
			}
		}
	}
}

// P11.3: a single dot that is hit, in the last of some cycles and not before it.
func TestSkipToHit(t *testing.T) {
	// The lower right dot of the picture is the only one.
	mem := append([]byte{1, 47, 31, 3, 128, 0, 0, 0}, slices.Repeat([]byte{2}, 24)...)
	for from := range 2560 {
		cycles := (place(31, 47)-from+2559)%2560 + 1
		early, late := video.Skip(chip(from, 0, mem...), cycles-1), video.Skip(chip(from, 0, mem...), cycles)
		if !same(early, chip(place(31, 46), 0, mem...)) || !same(late, chip(place(31, 47), 1, mem...)) {
			t.Fatalf("from %d: %v, %v", from, early, late)
		}
	}
}

// P11.3: so many cycles that they cannot pass one by one.
func TestSkipFar(t *testing.T) {
	for _, x := range []struct{ k, rest int }{
		{2559, 2559}, {2560, 0}, {2561, 1}, {5120, 0}, {api.MaxRun, 160}, {2560 << 40, 0}, {2560<<40 - 1, 2559}, {math.MaxInt, 2047}, {math.MaxInt - 2047, 0},
	} {
		for _, from := range []int{0, 1, 777, 2558, 2559} {
			hit := with(chip(from, 0, 0, 10, 20, 1, 16), 8+6*2+1, 1)
			if d := video.Skip(hit, x.k); !same(d, with(chip((from+x.rest)%2560, 1, 0, 10, 20, 1, 16), 8+6*2+1, 1)) {
				t.Errorf("%d cycles from %d: %v", x.k, from, d)
			}
			if d := video.Skip(chip(from, 0, 0, 10, 20, 1, 16), x.k); !same(d, chip((from+x.rest)%2560, 0, 0, 10, 20, 1, 16)) {
				t.Errorf("%d cycles from %d without a hit: %v", x.k, from, d)
			}
		}
	}
}

// P11.3: the chapter's example.
func TestExample(t *testing.T) {
	if d := video.Tick(video.New()); !same(d, chip(0, 0)) {
		t.Error(d)
	}
}

// P11.3
func TestNext(t *testing.T) {
	cells := slices.Repeat([]byte{2}, 24)
	plain := append([]byte{1, 0, 0, 0, 0, 0, 0, 0}, cells...)
	spotted := append([]byte{1, 13, 20, 9, 128, 0, 0, 0}, cells...)
	dotted := append([]byte{2, 47, 31, 9, 128, 0, 0, 0}, cells...)
	for _, x := range []struct {
		name      string
		d         api.Dev
		line, dot int
		want      int
	}{
		{"the first dot", chip(0, 0, plain...), 0, 0, 47},
		{"the last dot before the border", chip(0, 0, plain...), 5, 47, 0},
		{"the border of a line", chip(0, 0, plain...), 5, 48, 15},
		{"the last dot of the border", chip(0, 0, plain...), 5, 63, 0},
		{"the border below", chip(0, 0, plain...), 31, 48, 15 + 8*64},
		{"the last dot of the frame", chip(0, 0, plain...), 39, 63, 0},
		{"the line above the sprite", chip(0, 0, spotted...), 19, 0, 47},
		{"left of the sprite", chip(0, 0, spotted...), 20, 0, 12},
		{"the sprite", chip(0, 0, spotted...), 20, 13, 0},
		{"right of the sprite", chip(0, 0, spotted...), 20, 14, 33},
		{"one dot of another color, from it on", chip(0, 0, dotted...), 31, 47, 0},
		{"one dot of another color, in a frame", chip(0, 0, dotted...), 31, 48, 2558},
		{"one dot of another color, before it", chip(0, 0, dotted...), 31, 46, 0},
		{"one dot of another color, from the begin", chip(0, 0, dotted...), 0, 0, 31*64 + 46},
	} {
		x.d.N[0] = place(x.line, x.dot)
		for hit := range 2 {
			x.d.N[1] = hit
			if n := video.Next(x.d); n != x.want {
				t.Errorf("%s: %d, not %d", x.name, n, x.want)
			}
		}
	}
}

// P11.3: frames of one color, which different bytes can have.
func TestNextOfOneColor(t *testing.T) {
	mem := []byte{0x12, 13, 14, 0x22, 255, 9, 9, 9}
	for at := range 24 {
		mem = append(mem, byte(at<<4|2))
	}
	for position := range 2560 {
		if n := video.Next(chip(position, 0, mem...)); n != api.MaxRun {
			t.Errorf("at %d: %d", position, n)
		}
		if n := video.Next(chip(position, 0)); n != api.MaxRun {
			t.Errorf("at %d without colors: %d", position, n)
		}
	}
}

// keeping are functions that use a state in all ways, also those that return none.
func keeping() map[string]func(d api.Dev) api.Dev {
	all := map[string]func(d api.Dev) api.Dev{
		"New":     func(api.Dev) api.Dev { return video.New() },
		"Tick":    video.Tick,
		"no Skip": waiting(0),
		"Skip":    waiting(3000),
		"Next":    func(d api.Dev) api.Dev { return api.Dev{N: []int{video.Next(d)}} },
		"Out":     func(d api.Dev) api.Dev { return api.Dev{N: []int{video.Out(d)}} },
	}
	for at := -1; at < 33; at++ {
		all["Read of "+strconv.Itoa(at)] = reading(at)
		all["Write of "+strconv.Itoa(at)] = writing(at, 255)
	}
	return all
}

// spoil overwrites the memory of a state, also what is spare.
func spoil(d api.Dev) {
	for at := range d.N[:cap(d.N)] {
		d.N[:cap(d.N)][at] = 99
	}
	for at := range d.Mem[:cap(d.Mem)] {
		d.Mem[:cap(d.Mem)][at] = 99
	}
}

// Z2: the states of arguments stay, and those of results are new memory.
func TestNewMemory(t *testing.T) {
	numbers, mem := []int{5, 1, 7, 8}, append(counted(), 7, 8, 9)
	for name, f := range keeping() {
		for length := range numbers {
			for _, bytes := range []int{0, 1, 31, 32, 33} {
				d := api.Dev{N: slices.Clone(numbers)[:length], Mem: slices.Clone(mem)[:bytes]}
				first := f(d)
				want := api.Dev{N: slices.Clone(first.N), Mem: slices.Clone(first.Mem)}
				spoil(f(d))
				if !same(first, want) {
					t.Errorf("%s of %d numbers and %d bytes: %v, not %v", name, length, bytes, first, want)
				}
				if !slices.Equal(d.N[:len(numbers)], numbers) || !slices.Equal(d.Mem[:len(mem)], mem) {
					t.Errorf("%s of %d numbers and %d bytes has changed them: %v", name, length, bytes, d)
				}
			}
		}
	}
}
