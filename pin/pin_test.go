package pin_test

import (
	"math"
	"slices"
	"testing"

	"bakelite/pin"
)

// values are the four values, and numbers that count as Clash.
var values = []int{pin.Low, pin.High, pin.Float, pin.Clash, 4, 7, -1, -2, math.MaxInt, math.MinInt}

// levels are the sets of levels that drive a line: 1 stands for Low, 2 for High.
type levels int

const (
	low  levels = 1
	high levels = 2
)

// driving returns the levels that a number stands for. Lines are joined by joining these sets.
func driving(n int) levels {
	switch n {
	case 0:
		return low
	case 1:
		return high
	case 2:
		return 0
	}
	return low | high
}

// shown returns the value of a line with these levels.
func shown(l levels) int {
	return []int{2, 0, 1, 3}[l]
}

// joined returns the value of a line that the numbers of a list drive.
func joined(l []int) int {
	var all levels
	for _, n := range l {
		all |= driving(n)
	}
	return shown(all)
}

// lists calls f with every list of the given length of numbers of values.
func lists(length int, f func([]int)) {
	var extend func([]int)
	extend = func(l []int) {
		if len(l) == length {
			f(l)
			return
		}
		for _, n := range values {
			extend(append(slices.Clip(l), n))
		}
	}
	extend(nil)
}

func TestValues(t *testing.T) {
	if pin.Low != 0 || pin.High != 1 || pin.Float != 2 || pin.Clash != 3 {
		t.Error(pin.Low, pin.High, pin.Float, pin.Clash)
	}
}

// P2.1
func TestJoinExamples(t *testing.T) {
	for _, c := range []struct{ a, b, want int }{
		{pin.Low, pin.High, pin.Clash}, {pin.Low, pin.Low, pin.Low}, {pin.High, pin.High, pin.High}, {pin.Float, pin.Float, pin.Float}, {pin.Clash, pin.Clash, pin.Clash},
		{pin.Float, pin.Low, pin.Low}, {pin.Float, pin.High, pin.High}, {pin.Float, pin.Clash, pin.Clash}, {pin.Clash, pin.Low, pin.Clash}, {pin.Clash, pin.High, pin.Clash},
		{4, pin.Float, pin.Clash}, {-1, pin.Float, pin.Clash}, {-1, pin.Low, pin.Clash}, {4, 4, pin.Clash}, {4, pin.Clash, pin.Clash}, {5, -5, pin.Clash},
	} {
		if a, b := pin.Join(c.a, c.b), pin.Join(c.b, c.a); a != c.want || b != c.want {
			t.Errorf("Join of %d and %d: %d, and %d the other way round, not %d", c.a, c.b, a, b, c.want)
		}
	}
}

// P2.1
func TestJoin(t *testing.T) {
	lists(2, func(l []int) {
		if n := pin.Join(l[0], l[1]); n != joined(l) {
			t.Errorf("Join(%d, %d): %d, not %d", l[0], l[1], n, joined(l))
		}
	})
}

// P2.1
func TestAllExamples(t *testing.T) {
	for _, c := range []struct {
		l    []int
		want int
	}{
		{nil, pin.Float}, {[]int{pin.Low}, pin.Low}, {[]int{pin.Float}, pin.Float}, {[]int{9}, pin.Clash}, {[]int{-9}, pin.Clash},
		{[]int{2, 1, 2, 1}, pin.High}, {[]int{2, 0, 2, 0, 2}, pin.Low}, {[]int{1, 1, 0}, pin.Clash}, {[]int{0, 1, 1}, pin.Clash}, {[]int{0, 1, 0, 2}, pin.Clash}, {[]int{2, 2, 2}, pin.Float},
	} {
		if n := pin.All(c.l); n != c.want {
			t.Errorf("All(%v): %d, not %d", c.l, n, c.want)
		}
	}
}

// P2.1
func TestAll(t *testing.T) {
	for length := range 5 {
		lists(length, func(l []int) {
			if n := pin.All(l); n != joined(l) {
				t.Errorf("All(%v): %d, not %d", l, n, joined(l))
			}
		})
	}
}

// P2.2
func TestPull(t *testing.T) {
	for _, c := range []struct{ a, to, want int }{
		{pin.Low, pin.High, pin.Low}, {pin.High, pin.Low, pin.High}, {pin.Clash, pin.High, pin.Clash}, {pin.Low, pin.Float, pin.Low},
		{pin.Float, pin.Low, pin.Low}, {pin.Float, pin.High, pin.High}, {pin.Float, pin.Float, pin.Float}, {pin.Float, pin.Clash, pin.Clash},
		{pin.Float, 9, pin.Clash}, {pin.Float, -1, pin.Clash}, {9, pin.High, pin.Clash}, {-1, pin.Low, pin.Clash}, {pin.High, -1, pin.High},
	} {
		if n := pin.Pull(c.a, c.to); n != c.want {
			t.Errorf("Pull(%d, %d): %d, not %d", c.a, c.to, n, c.want)
		}
	}
	lists(2, func(l []int) {
		strong := driving(l[0])
		if strong == 0 {
			strong = driving(l[1])
		}
		if n := pin.Pull(l[0], l[1]); n != shown(strong) {
			t.Errorf("Pull(%d, %d): %d, not %d", l[0], l[1], n, shown(strong))
		}
	})
}

// P2.2
func TestWiredExamples(t *testing.T) {
	for _, c := range []struct {
		l        []int
		to, want int
	}{
		{[]int{1, 2, 0, 3}, 1, pin.Low}, {[]int{3, 0}, 1, pin.Low}, {[]int{0, 3}, 1, pin.Low}, {[]int{9, 1, 0}, 9, pin.Low}, {[]int{0}, -1, pin.Low},
		{[]int{1, 3, 2}, 1, pin.Clash}, {[]int{3}, 0, pin.Clash}, {[]int{1, 9}, 1, pin.Clash}, {[]int{-1, 1}, 2, pin.Clash},
		{[]int{1, 2}, 1, pin.High}, {[]int{1, 2}, 0, pin.Low}, {[]int{1}, 2, pin.Float}, {[]int{2}, 3, pin.Clash}, {[]int{1}, 9, pin.Clash}, {[]int{1}, -1, pin.Clash},
		{nil, 0, pin.Low}, {nil, 1, pin.High}, {nil, 2, pin.Float}, {nil, 3, pin.Clash}, {nil, 4, pin.Clash}, {nil, math.MinInt, pin.Clash},
	} {
		if n := pin.Wired(c.l, c.to); n != c.want {
			t.Errorf("Wired(%v, %d): %d, not %d", c.l, c.to, n, c.want)
		}
	}
}

// P2.2
func TestWired(t *testing.T) {
	for length := range 4 {
		lists(length, func(l []int) {
			for _, to := range values {
				testWired(t, l, to)
			}
		})
	}
}

func testWired(t *testing.T, l []int, to int) {
	want := shown(driving(to))
	if slices.ContainsFunc(l, func(n int) bool { return driving(n) == low|high }) {
		want = pin.Clash
	}
	if slices.Contains(l, pin.Low) {
		want = pin.Low
	}
	if n := pin.Wired(l, to); n != want {
		t.Errorf("Wired(%v, %d): %d, not %d", l, to, n, want)
	}
}

// P2.3
func TestBusExamples(t *testing.T) {
	for _, c := range []struct {
		l                     [][8]int
		data, floating, clash int
	}{
		{nil, 255, 255, 0},
		{[][8]int{{}}, 0, 0, 0},
		{[][8]int{{1, 0, 0, 0, 0, 0, 0, 0}}, 1, 0, 0},
		{[][8]int{{0, 0, 0, 0, 0, 0, 0, 1}}, 128, 0, 0},
		{[][8]int{{0, 1, 2, 3, 0, 1, 2, 3}}, 0xEE, 0x44, 0x88},
		{[][8]int{{0, 1, 2, 2, 2, 2, 2, 2}}, 0xFE, 0xFC, 0},
		{[][8]int{{4, -1, 0, 0, 0, 0, math.MinInt, math.MaxInt}}, 0xC3, 0, 0xC3},
		{[][8]int{{0, 0, 0, 0, 1, 1, 2, 2}, {0, 1, 2, 3, 1, 2, 2, 9}}, 0xFA, 0x40, 0x8A},
		{[][8]int{{0, 2, 2, 2, 2, 2, 2, 2}, {2, 0, 2, 2, 1, 2, 2, 2}, {2, 2, 0, 2, 2, 2, 2, 1}}, 0xF8, 0x68, 0},
		{[][8]int{pin.Drive(0x0F), pin.Drive(0x3C)}, 0x3F, 0, 0x33},
	} {
		if data, floating, clash := pin.Bus(c.l); data != c.data || floating != c.floating || clash != c.clash {
			t.Errorf("Bus(%v): %x, %x, %x, not %x, %x, %x", c.l, data, floating, clash, c.data, c.floating, c.clash)
		}
	}
}

// P2.3: every list of three numbers on each of the lines, with other numbers on the other lines.
func TestBus(t *testing.T) {
	for line := range 8 {
		lists(3, func(l []int) {
			bus := make([][8]int, len(l))
			for driver := range bus {
				for at := range bus[driver] {
					bus[driver][at] = values[(driver*line+at)%len(values)]
				}
				bus[driver][line] = l[driver]
			}
			testBus(t, bus)
		})
	}
}

func testBus(t *testing.T, bus [][8]int) {
	var data, floating, clash int
	for at := range 8 {
		var l []int
		for _, driven := range bus {
			l = append(l, driven[at])
		}
		switch joined(l) {
		case 1:
			data += 1 << at
		case 2:
			data, floating = data+1<<at, floating+1<<at
		case 3:
			data, clash = data+1<<at, clash+1<<at
		}
	}
	if d, f, c := pin.Bus(bus); d != data || f != floating || c != clash {
		t.Errorf("Bus(%v): %x, %x, %x, not %x, %x, %x", bus, d, f, c, data, floating, clash)
	}
}

// P2.3
func TestDriveExamples(t *testing.T) {
	for _, c := range []struct {
		data int
		want [8]int
	}{
		{0, [8]int{}}, {1, [8]int{1, 0, 0, 0, 0, 0, 0, 0}}, {128, [8]int{0, 0, 0, 0, 0, 0, 0, 1}}, {0xB2, [8]int{0, 1, 0, 0, 1, 1, 0, 1}},
		{256, [8]int{}}, {0x1B2, [8]int{0, 1, 0, 0, 1, 1, 0, 1}}, {-1, [8]int{1, 1, 1, 1, 1, 1, 1, 1}}, {-2, [8]int{0, 1, 1, 1, 1, 1, 1, 1}}, {-256, [8]int{}},
		{math.MaxInt, [8]int{1, 1, 1, 1, 1, 1, 1, 1}}, {math.MinInt, [8]int{}}, {math.MinInt + 4, [8]int{0, 0, 1, 0, 0, 0, 0, 0}},
	} {
		if lines := pin.Drive(c.data); lines != c.want {
			t.Errorf("Drive(%d): %v, not %v", c.data, lines, c.want)
		}
	}
}

// P2.3: what is driven on lines that nothing else drives is the byte on the bus.
func TestDriveAndBus(t *testing.T) {
	for n := -300; n <= 600; n++ {
		lines := pin.Drive(n)
		for at, line := range lines {
			if line != n>>at&1 {
				t.Errorf("Drive(%d): %v", n, lines)
			}
		}
		if data, floating, clash := pin.Bus([][8]int{lines}); data != n&255 || floating != 0 || clash != 0 {
			t.Errorf("Bus of Drive(%d): %x, %x, %x", n, data, floating, clash)
		}
	}
}

// Z2: the arguments stay as they are, with the memory behind their lengths, and earlier calls change no result.
func TestArgumentsStay(t *testing.T) {
	spare := []int{2, 9, -1, 3, 0, 1, 7}
	whole := slices.Clone(spare)
	rows := [][8]int{{2, 9, 1, 0, 2, 3, 1, 0}, {2, 2, 9, 0, 1, 3, -1, 0}, {5, 5, 5, 5, 5, 5, 5, 5}}
	wholeRows := slices.Clone(rows)
	for range 3 {
		all, wired := pin.All(spare[:3]), pin.Wired(spare[:3], 1)
		data, floating, clash := pin.Bus(rows[:2])
		if all != 3 || wired != 3 || data != 0x77 || floating != 0x01 || clash != 0x66 {
			t.Error(all, wired, data, floating, clash)
		}
		if !slices.Equal(spare, whole) || !slices.Equal(rows, wholeRows) {
			t.Fatal(spare, rows)
		}
	}
}

// Z4
func TestEmptyAndNil(t *testing.T) {
	if pin.All(nil) != pin.Float || pin.All([]int{}) != pin.Float {
		t.Error("All")
	}
	for _, to := range values {
		if a, b := pin.Wired(nil, to), pin.Wired([]int{}, to); a != b || a != shown(driving(to)) {
			t.Errorf("Wired of none, %d: %d, %d", to, a, b)
		}
	}
	if data, floating, clash := pin.Bus([][8]int{}); data != 255 || floating != 255 || clash != 0 {
		t.Error(data, floating, clash)
	}
}
