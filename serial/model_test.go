package serial_test

import (
	"math/rand"
	"slices"
	"testing"

	"bakelite/api"
	"bakelite/serial"
)

// model is a chip as the chapter tells it, with lists of what goes in and out.
type model struct {
	sending  []int // the byte that is being sent, if there is one, once for each cycle left
	received int
	unread   bool
	lost     bool
	control  int
	sent     []int // all bytes that have been sent, the last one behind
}

func (m *model) out() int {
	if len(m.sent) == 0 {
		return 0
	}
	return len(m.sent)*256 + m.sent[len(m.sent)-1]
}

func (m *model) next() int {
	if len(m.sending) == 0 {
		return api.MaxRun
	}
	return len(m.sending) - 1
}

func (m *model) irq() bool {
	if m.control%2 == 1 && m.unread {
		return true
	}
	return m.control/2 == 1 && len(m.sending) == 0
}

// send is Write of 0, with a byte.
func (m *model) send(n int) {
	if len(m.sending) == 0 {
		m.sending = slices.Repeat([]int{n}, 40)
	}
}

// hear is In, with a byte.
func (m *model) hear(n int) {
	m.lost = m.lost || m.unread
	if !m.unread {
		m.received, m.unread = n, true
	}
}

func (m *model) tick() {
	switch len(m.sending) {
	case 0:
	case 1:
		m.sent = append(m.sent, m.sending[0])
		m.sending = nil
	default:
		m.sending = m.sending[1:]
	}
}

// read is Read of a register.
func (m *model) read(at int) int {
	n := 0
	switch at {
	case 0:
		n, m.unread = m.received, false
	case 1:
		for bit, is := range []bool{m.unread, len(m.sending) > 0, m.lost} {
			if is {
				n += 1 << bit
			}
		}
		m.lost = false
	case 2:
		n = m.control
	}
	return n
}

// P10.1 to P10.3: long use of one chip against the model.
func TestUse(t *testing.T) {
	r := rand.New(rand.NewSource(10))
	d := serial.New()
	m := &model{}
	for step := range 40000 {
		// A byte from 0 to 255, and a number of which it is the lowest eight bits.
		low := r.Intn(256)
		data := low + 256*(r.Intn(100)-50)
		switch r.Intn(6) {
		case 0:
			m.send(low)
			d = serial.Write(d, 0, data)
		case 1:
			m.control = low % 4
			d = serial.Write(d, 2, data)
		case 2:
			m.hear(low)
			d = serial.In(d, data)
		case 3:
			var n int
			at := r.Intn(4)
			want := m.read(at)
			if d, n = serial.Read(d, at); n != want {
				t.Fatalf("step %d: register %d is %d, not %d", step, at, n, want)
			}
		case 4:
			m.tick()
			d = serial.Tick(d)
		case 5:
			k := r.Intn(60) - 10
			for range max(k, 0) {
				m.tick()
			}
			d = serial.Skip(d, k)
		}
		if serial.Out(d) != m.out() || serial.Next(d) != m.next() || serial.Irq(d) != m.irq() {
			t.Fatalf("step %d: %d, %d, %v, not %d, %d, %v", step, serial.Out(d), serial.Next(d), serial.Irq(d), m.out(), m.next(), m.irq())
		}
	}
	if len(m.sent) < 100 {
		t.Errorf("only %d bytes were sent", len(m.sent))
	}
}

// random is a state with eight numbers, near and far.
func random(r *rand.Rand) api.Dev {
	d := chip(r.Intn(256), r.Intn(64), r.Intn(256), r.Intn(2), r.Intn(2), r.Intn(4), r.Intn(many), r.Intn(256))
	for at := range d.N {
		if r.Intn(4) == 0 {
			d.N[at] = int(r.Uint64())
		}
	}
	return d
}

// P10.2: Skip is so many Ticks, also in two parts.
func TestSkipIsTicks(t *testing.T) {
	r := rand.New(rand.NewSource(102))
	for range 3000 {
		d, first, second := random(r), r.Intn(50), r.Intn(50)
		ticked := serial.Skip(d, 0)
		for range first + second {
			ticked = serial.Tick(ticked)
		}
		whole, parts := serial.Skip(d, first+second), serial.Skip(serial.Skip(d, first), second)
		if !is(whole, ticked.N...) || !is(parts, ticked.N...) {
			t.Fatalf("%v after %d and %d cycles: %v, in parts %v, not %v", d, first, second, whole, parts, ticked)
		}
	}
}

// P10.2 and P10.3: for as many cycles as Next says Irq and Out stay as they are. In the cycle behind them the byte has been sent.
func TestNextHolds(t *testing.T) {
	r := rand.New(rand.NewSource(103))
	for range 3000 {
		d := random(r)
		next, irq, out := serial.Next(d), serial.Irq(d), serial.Out(d)
		for range min(next, 100) {
			if d = serial.Tick(d); serial.Irq(d) != irq || serial.Out(d) != out {
				t.Fatalf("%v: %v, %d", d, serial.Irq(d), serial.Out(d))
			}
		}
		if next < 100 && serial.Out(serial.Tick(d))/256 != (out/256+1)%many {
			t.Fatalf("%v is not sent", d)
		}
	}
}
