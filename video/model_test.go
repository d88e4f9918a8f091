package video_test

import (
	"math/rand"
	"testing"

	"bakelite/api"
	"bakelite/video"
)

// model is a chip as the chapter tells it: the place in the frame, and the registers.
type model struct {
	line, dot int
	hit       bool
	registers [32]byte
}

// modelled is the model of a state in its form.
func modelled(d api.Dev) model {
	m := model{line: d.N[0] / 64, dot: d.N[0] % 64, hit: d.N[1] == 1}
	copy(m.registers[:], d.Mem)
	return m
}

// dev is the state that a model stands for.
func (m model) dev() api.Dev {
	d := api.Dev{N: []int{m.line*64 + m.dot, 0}, Mem: m.registers[:]}
	if m.hit {
		d.N[1] = 1
	}
	return d
}

// picture is a whole frame: the colors, and where the sprite hits cells.
type picture struct {
	colors [40][64]int
	hits   [40][64]bool
}

// painted is the frame that registers make: the border, the cells on it, and the sprite on these.
func painted(registers [32]byte) *picture {
	p := &picture{}
	for line := range 40 {
		for dot := range 64 {
			p.colors[line][dot] = int(registers[0]) % 16
		}
	}
	for cell := range 24 {
		top, left := cell/6*8, cell%6*8
		for n := range 64 {
			p.colors[top+n/8][left+n%8] = int(registers[8+cell]) % 16
		}
	}
	for n := range 64 {
		line, dot := int(registers[2])+n/8, int(registers[1])+n%8
		if registers[4]<<(n%8)&128 == 0 || line >= 32 || dot >= 48 {
			continue
		}
		p.hits[line][dot] = p.colors[line][dot] != 0
		p.colors[line][dot] = int(registers[3]) % 16
	}
	return p
}

// tick lets a cycle pass over a picture.
func (m *model) tick(p *picture) {
	if m.dot++; m.dot == 64 {
		m.dot = 0
		if m.line++; m.line == 40 {
			m.line = 0
		}
	}
	m.hit = m.hit || p.hits[m.line][m.dot]
}

// next counts the cycles with the same color, for a whole frame.
func (m model) next(p *picture) int {
	color := p.colors[m.line][m.dot]
	for k := range 2560 {
		if m.tick(p); p.colors[m.line][m.dot] != color {
			return k
		}
	}
	return api.MaxRun
}

// read is Read of a register.
func (m *model) read(at int) int {
	switch at {
	case 5:
		return m.line
	case 6:
		return m.dot
	case 7:
		defer func() { m.hit = false }()
		if m.hit {
			return 1
		}
		return 0
	}
	if at < 0 || at >= 32 {
		return 0
	}
	return int(m.registers[at])
}

// write is Write of a byte into a register.
func (m *model) write(at int, data byte) {
	if at >= 0 && at < 32 && (at < 5 || at > 7) {
		m.registers[at] = data
	}
}

// random is a state whose sprite is mostly in the picture, and whose cells have few colors, so that long stretches are alike.
func random(r *rand.Rand) api.Dev {
	d := api.Dev{N: []int{r.Intn(2560), r.Intn(2)}, Mem: make([]byte, 32)}
	r.Read(d.Mem[:5])
	if r.Intn(8) > 0 {
		d.Mem[video.X], d.Mem[video.Y] = byte(r.Intn(64)), byte(r.Intn(40))
	}
	colors := []byte{0, 16, 3, 0xF3}[r.Intn(4):]
	d.Mem[video.Border] = colors[0]
	for at := range d.Mem[video.Cells:] {
		d.Mem[video.Cells+at] = colors[r.Intn(len(colors))]
	}
	return d
}

// P11.1 to P11.3: every position of random frames, one after the other.
func TestFrames(t *testing.T) {
	r := rand.New(rand.NewSource(11))
	for range 200 {
		first := random(r)
		d, m := first, modelled(first)
		p := painted(m.registers)
		for range 2600 {
			m.tick(p)
			if d = video.Tick(d); !same(d, m.dev()) || video.Out(d) != p.colors[m.line][m.dot] {
				t.Fatalf("%v: %v has the color %d, not %v and %d", first, d, video.Out(d), m.dev(), p.colors[m.line][m.dot])
			}
		}
	}
}

// P11.3: Skip is so many Ticks, also in two parts.
func TestSkipIsTicks(t *testing.T) {
	r := rand.New(rand.NewSource(113))
	for range 3000 {
		d, first, second := random(r), r.Intn(500), r.Intn(3000)>>r.Intn(8)
		m := modelled(d)
		p := painted(m.registers)
		for range first + second {
			m.tick(p)
		}
		whole, parts := video.Skip(d, first+second), video.Skip(video.Skip(d, first), second)
		if !same(whole, m.dev()) || !same(parts, m.dev()) {
			t.Fatalf("%v after %d and %d cycles: %v, in parts %v, not %v", d, first, second, whole, parts, m.dev())
		}
	}
}

// P11.3: Next, and what it promises.
func TestNextHolds(t *testing.T) {
	r := rand.New(rand.NewSource(1133))
	for range 3000 {
		d := random(r)
		next, out, m := video.Next(d), video.Out(d), modelled(d)
		p := painted(m.registers)
		if want := m.next(p); next != want {
			t.Fatalf("%v: %d, not %d", d, next, want)
		}
		later := d
		for range min(next, 300) {
			if later = video.Tick(later); video.Out(later) != out {
				t.Fatalf("%v has another color at %v", d, later.N)
			}
		}
		if next < api.MaxRun && video.Out(video.Skip(d, next+1)) == out {
			t.Fatalf("%v keeps its color for more than %d cycles", d, next)
		}
	}
}

// P11.2 and P11.3: long use of one chip against the model.
func TestUse(t *testing.T) {
	r := rand.New(rand.NewSource(112))
	d := video.New()
	m := modelled(d)
	hits := 0
	for step := range 30000 {
		// A byte, and a number of which it is the lowest eight bits.
		low := byte(r.Intn(256))
		data := int(low) + 256*(r.Intn(100)-50)
		switch at := r.Intn(36) - 2; r.Intn(4) {
		case 0:
			if at == video.X || at == video.Y {
				low %= 40
				data = int(low)
			}
			m.write(at, low)
			d = video.Write(d, at, data)
		case 1:
			var n int
			want := m.read(at)
			if d, n = video.Read(d, at); n != want {
				t.Fatalf("step %d: register %d is %d, not %d", step, at, n, want)
			}
			if at == video.Hits {
				hits += n
			}
		case 2:
			m.tick(painted(m.registers))
			d = video.Tick(d)
		case 3:
			k := r.Intn(400) - 20
			p := painted(m.registers)
			for range max(k, 0) {
				m.tick(p)
			}
			d = video.Skip(d, k)
		}
		if !same(d, m.dev()) {
			t.Fatalf("step %d: %v, not %v", step, d, m.dev())
		}
	}
	if hits < 20 {
		t.Errorf("only %d hits were read", hits)
	}
}
