package timer_test

import (
	"math"
	"math/rand"
	"testing"

	"bakelite/api"
	"bakelite/timer"
)

// model is a state in its form, with numbers of their own for the control bits.
type model struct {
	counter, latch    int
	run, repeat, irqs bool
	fired             bool
}

// modelled is the model of a state with four numbers.
func modelled(d api.Dev) model {
	mod := func(at, m int) int { return (d.N[at]%m + m) % m }
	return model{
		counter: mod(0, 65536), latch: mod(1, 65536), fired: mod(3, 2) == 1,
		run: mod(2, 2) == 1, repeat: mod(2, 4) >= 2, irqs: mod(2, 8) >= 4,
	}
}

// numbers are the numbers of the state that a model stands for.
func (m model) numbers() []int {
	l := []int{m.counter, m.latch, 0, 0}
	if m.run {
		l[2]++
	}
	if m.repeat {
		l[2] += 2
	}
	if m.irqs {
		l[2] += 4
	}
	if m.fired {
		l[3]++
	}
	return l
}

// tick is P8.2.
func (m model) tick() model {
	if !m.run {
		return m
	}
	if m.counter > 0 {
		m.counter--
		return m
	}
	m.fired = true
	if m.repeat {
		m.counter = m.latch
	} else {
		m.run = false
	}
	return m
}

// skip does tick k times. When a model comes again that was there after a power of 2 of them, full rounds are left out.
func (m model) skip(k int) model {
	early, at := m, 0
	for done := 1; done <= k; done++ {
		if m = m.tick(); m == early {
			for range (k - done) % (done - at) {
				m = m.tick()
			}
			return m
		}
		if done&(done-1) == 0 {
			early, at = m, done
		}
	}
	return m
}

func (m model) irq() bool { return m.fired && m.irqs }

// P8.2: all small chips, for more cycles than they have periods.
func TestSkipSmall(t *testing.T) {
	for counter := range 6 {
		for latch := range 6 {
			for control := range 8 {
				for fired := range 2 {
					d := chip(counter, latch, control, fired)
					m, ticked := modelled(d), d
					for k := range 30 {
						if got := timer.Skip(d, k); !is(got, m.numbers()...) || !is(ticked, m.numbers()...) {
							t.Fatalf("%v after %d cycles: %v, one by one %v, not %v", d, k, got, ticked, m.numbers())
						}
						m, ticked = m.tick(), timer.Tick(ticked)
					}
				}
			}
		}
	}
}

// P8.2: so many cycles that they cannot pass one by one.
func TestSkipFar(t *testing.T) {
	for _, latch := range []int{0, 1, 2, 6, 255, 299, 65534, 65535} {
		for _, counter := range []int{0, 1, 300, 65535} {
			for control := range 8 {
				for _, k := range []int{65535, 65536, 65537, 131072, api.MaxRun, 1 << 40, 1<<62 + 12345, math.MaxInt - 1, math.MaxInt} {
					d := chip(counter, latch, control, 0)
					if got, want := timer.Skip(d, k), modelled(d).skip(k); !is(got, want.numbers()...) {
						t.Errorf("%v after %d cycles: %v, not %v", d, k, got, want.numbers())
					}
				}
			}
		}
	}
}

// random is a state with four numbers, near and far.
func random(r *rand.Rand) api.Dev {
	d := chip(r.Intn(400), r.Intn(400), r.Intn(8), r.Intn(2))
	for at := range d.N {
		if r.Intn(4) == 0 {
			d.N[at] = int(r.Uint64())
		}
	}
	return d
}

// P8.2: cycles that pass in two parts are as many as both together.
func TestSkipParts(t *testing.T) {
	r := rand.New(rand.NewSource(8))
	for range 2000 {
		d, first, second := random(r), r.Intn(1000), r.Intn(140000)
		got, want := timer.Skip(timer.Skip(d, first), second), modelled(d).skip(first+second)
		if !is(got, want.numbers()...) {
			t.Fatalf("%v after %d and %d cycles: %v, not %v", d, first, second, got, want.numbers())
		}
	}
}

// P8.3: for as many cycles as Next says Irq stays as it is. Behind them a chip that runs fires.
func TestNextHolds(t *testing.T) {
	r := rand.New(rand.NewSource(83))
	for range 2000 {
		d := random(r)
		next, m := timer.Next(d), modelled(d)
		want := api.MaxRun
		if m.run {
			want = m.counter
		}
		if next != want {
			t.Fatalf("%v: %d, not %d", d, next, want)
		}
		for range min(next, 1000) {
			if d = timer.Tick(d); timer.Irq(d) != m.irq() {
				t.Fatalf("%v: %v", d, timer.Irq(d))
			}
		}
		if m.run && next <= 1000 && timer.Irq(timer.Tick(d)) != m.irqs {
			t.Fatalf("%v does not fire", d)
		}
	}
}

// P8.1 to P8.3: long use of one chip against a model with the same registers.
func TestUse(t *testing.T) {
	r := rand.New(rand.NewSource(81))
	d := timer.New()
	m := modelled(d)
	for range 20000 {
		switch data := r.Intn(1024) - 512; r.Intn(5) {
		case 0:
			d, m.latch = timer.Write(d, 0, data), m.latch/256*256+(data+512)%256
		case 1:
			// Mostly small, so that the chip fires now and then.
			data &= 257
			d, m.latch = timer.Write(d, 1, data), m.latch%256+data%256*256
		case 2:
			d = timer.Write(d, 2, data)
			m.run, m.repeat, m.irqs = data&1 > 0, data&2 > 0, data&4 > 0
			if data&128 > 0 {
				m.counter = m.latch
			}
		case 3:
			at := r.Intn(8)
			var n int
			want := [8]int{m.counter % 256, m.counter / 256, m.numbers()[2], m.numbers()[3]}
			if d, n = timer.Read(d, at); n != want[at] {
				t.Fatalf("register %d of %v: %d, not %d", at, d, n, want[at])
			}
			m.fired = m.fired && at != 3
		case 4:
			k := r.Intn(300) - 20
			d, m = timer.Skip(d, k), m.skip(k)
		}
		if !is(d, m.numbers()...) || timer.Irq(d) != m.irq() {
			t.Fatalf("%v, not %v", d, m.numbers())
		}
	}
}
