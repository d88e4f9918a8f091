package drive_test

import (
	"math/rand"
	"testing"

	"bakelite/api"
	"bakelite/drive"
)

// job is a command that a model is doing.
type job struct {
	kind, sector, done, left int
}

// model is a chip as the chapter tells it, with disks that have tracks, and tracks that have sectors.
type model struct {
	disks   [][4][4][16]byte
	in      int // the disk in the drive, from 0 on, -1 if there is none
	track   int
	job     *job
	last    job // what is kept of the last command
	data    int
	ready   bool
	lost    bool
	control bool
}

// mod is a number modulo another one, not negative.
func mod(n, by int) int {
	return (n%by + by) % by
}

// modelled is the model of a state with ten numbers.
func modelled(d api.Dev) *model {
	m := &model{disks: make([][4][4][16]byte, len(d.Mem)/256), in: mod(d.N[0], 256) - 1, track: mod(d.N[1], 4)}
	for at := range len(m.disks) * 256 {
		m.disks[at/256][at/64%4][at/16%4][at%16] = d.Mem[at]
	}
	if m.in >= len(m.disks) {
		m.in = -1
	}
	kind := mod(d.N[2], 8)
	if kind > 4 {
		kind = 0
	}
	m.last = job{kind, mod(d.N[3], 4), mod(d.N[4], 16), mod(d.N[5], 64)}
	if kind > 0 {
		m.job = &m.last
	}
	m.data, m.ready, m.lost, m.control = mod(d.N[6], 256), mod(d.N[7], 2) == 1, mod(d.N[8], 2) == 1, mod(d.N[9], 2) == 1
	return m
}

// flag is a truth value as a number.
func flag(is bool) int {
	if is {
		return 1
	}
	return 0
}

// state is the state that a model stands for.
func (m *model) state() api.Dev {
	d := api.Dev{N: []int{m.in + 1, m.track, 0, m.last.sector, m.last.done, m.last.left, m.data, flag(m.ready), flag(m.lost), flag(m.control)}}
	if m.job != nil {
		d.N[2] = m.job.kind
	}
	for _, tracks := range m.disks {
		for _, sectors := range tracks {
			for _, bytes := range sectors {
				d.Mem = append(d.Mem, bytes[:]...)
			}
		}
	}
	return d
}

// tick is P13.3.
func (m *model) tick() {
	if m.job == nil {
		return
	}
	moves := m.job.kind == 1 || m.job.kind == 2
	if !moves && m.in < 0 {
		m.job = nil
		return
	}
	if m.job.left > 1 {
		m.job.left--
		return
	}
	if moves {
		to := m.track + 1
		if m.job.kind == 2 {
			to = m.track - 1
		}
		if to >= 0 && to < 4 {
			m.track = to
		}
		m.job.left = 0
		m.job = nil
		return
	}
	if m.ready {
		m.lost = true
	}
	b := &m.disks[m.in][m.track][m.job.sector][m.job.done]
	if m.job.kind == 3 {
		m.data = int(*b)
	} else {
		*b = byte(m.data)
	}
	m.ready = true
	m.job.done++
	m.job.left = 20
	if m.job.done == 16 {
		if m.job.kind == 4 {
			m.ready = false
		}
		m.job.done, m.job.left = 0, 0
		m.job = nil
	}
}

// skip does tick k times.
func (m *model) skip(k int) {
	for range k {
		m.tick()
	}
}

// read is P13.1.
func (m *model) read(at int) int {
	switch at {
	case 0:
		n := flag(m.job != nil) + 2*flag(m.ready) + 4*flag(m.lost) + 8*flag(m.in < 0)
		m.lost = false
		return n
	case 1:
		if m.job == nil || m.job.kind != 4 {
			m.ready = false
		}
		return m.data
	case 2:
		return m.track
	case 3:
		return flag(m.control)
	}
	return 0
}

// write is P13.2.
func (m *model) write(at, k int) {
	low := mod(k, 256)
	switch at {
	case 0:
		kind := low % 16
		if m.job != nil || kind < 1 || kind > 4 || kind > 2 && m.in < 0 {
			return
		}
		m.last = job{kind, low / 16 % 4, 0, 30}
		m.job = &m.last
		m.ready = kind == 4
	case 1:
		m.data = low
		if m.job != nil && m.job.kind == 4 {
			m.ready = false
		}
	case 3:
		m.control = low%2 == 1
	}
}

// change is P13.2.
func (m *model) change(k int) {
	if m.job == nil {
		m.in = mod(k, 256) - 1
		if m.in >= len(m.disks) {
			m.in = -1
		}
	}
}

// next is P13.4.
func (m *model) next() int {
	if m.job == nil {
		return api.MaxRun
	}
	return max(1, m.job.left) - 1
}

// random is a state with ten numbers, near and far, and up to four disks.
func random(r *rand.Rand) api.Dev {
	d := api.Dev{N: []int{r.Intn(6), r.Intn(4), r.Intn(6), r.Intn(4), r.Intn(16), r.Intn(64), r.Intn(256), r.Intn(2), r.Intn(2), r.Intn(2)}}
	for at := range d.N {
		if r.Intn(8) == 0 {
			d.N[at] = int(r.Uint64())
		}
	}
	d.Mem = make([]byte, r.Intn(1200))
	r.Read(d.Mem)
	return d
}

// P13.3: Skip does what so many ticks do, also in two parts.
func TestSkipIsTicks(t *testing.T) {
	r := rand.New(rand.NewSource(133))
	for range 3000 {
		d, first, second := random(r), r.Intn(100), r.Intn(500)
		m := modelled(d)
		m.skip(first + second)
		want := m.state()
		if got := drive.Skip(d, first+second); !same(got, want) {
			t.Fatalf("%v after %d cycles: %v, not %v", d.N, first+second, got.N, want.N)
		}
		if got := drive.Skip(drive.Skip(d, first), second); !same(got, want) {
			t.Fatalf("%v after %d and %d cycles: %v, not %v", d.N, first, second, got.N, want.N)
		}
		ticked := d
		for range 40 {
			ticked = drive.Tick(ticked)
		}
		if got := drive.Skip(d, 40); !same(got, ticked) {
			t.Fatalf("%v after 40 cycles: %v, not %v", d.N, got.N, ticked.N)
		}
	}
}

// P13.4: for as many cycles as Next says Irq and Out stay as they are.
func TestNextHolds(t *testing.T) {
	r := rand.New(rand.NewSource(134))
	for range 3000 {
		d := random(r)
		next, irq, out := drive.Next(d), drive.Irq(d), drive.Out(d)
		if next != modelled(d).next() {
			t.Fatalf("%v: %d, not %d", d.N, next, modelled(d).next())
		}
		for range min(next, 100) {
			if d = drive.Tick(d); drive.Irq(d) != irq || drive.Out(d) != out {
				t.Fatalf("%v: %v, %d", d.N, drive.Irq(d), drive.Out(d))
			}
		}
	}
}

// step uses a chip and its model in some way.
func step(t *testing.T, r *rand.Rand, d api.Dev, m *model) api.Dev {
	low := r.Intn(256)
	k := low + 256*(r.Intn(100)-50)
	at := r.Intn(5)
	switch r.Intn(7) {
	case 0:
		m.write(at, k)
		return drive.Write(d, at, k)
	case 1:
		m.write(1, k)
		return drive.Write(d, 1, k)
	case 2:
		k = 1 + r.Intn(4) + 16*r.Intn(16)
		m.write(0, k)
		return drive.Write(d, 0, k)
	case 3:
		k = low%6 + 256*(r.Intn(100)-50)
		m.change(k)
		return drive.Change(d, k)
	case 4:
		want := m.read(at)
		d, n := drive.Read(d, at)
		if n != want {
			t.Fatalf("register %d is %d, not %d", at, n, want)
		}
		return d
	case 5:
		m.tick()
		return drive.Tick(d)
	}
	k = r.Intn(60) - 10
	m.skip(max(k, 0))
	return drive.Skip(d, k)
}

// P13.1 to P13.4: long use of chips against the model.
func TestUse(t *testing.T) {
	r := rand.New(rand.NewSource(13))
	for range 10 {
		d := drive.New(random(r).Mem)
		m := modelled(d)
		for range 4000 {
			d = step(t, r, d, m)
			if want := m.state(); !same(d, want) {
				t.Fatalf("%v, not %v", d.N, want.N)
			}
			if drive.Next(d) != m.next() || drive.Irq(d) != (m.control && m.ready) || drive.Out(d) != m.track {
				t.Fatalf("%v: %d, %v, %d", d.N, drive.Next(d), drive.Irq(d), drive.Out(d))
			}
		}
	}
}
