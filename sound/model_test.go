package sound_test

import (
	"math/rand"
	"slices"
	"testing"

	"bakelite/api"
	"bakelite/sound"
)

// model is a voice as the chapter tells it.
type model struct {
	period, volume, rate, count int
	high                        bool
	fading                      int
}

// modelled are the models of the voices of a state with twelve numbers.
func modelled(d api.Dev) [2]model {
	var m [2]model
	for v := range m {
		mod := func(at, by int) int { return (d.N[6*v+at]%by + by) % by }
		m[v] = model{mod(0, 4096), mod(1, 16), mod(2, 256), mod(3, 4096), mod(4, 2) == 1, mod(5, 16384)}
	}
	return m
}

// numbers are the numbers of the state that models stand for.
func numbers(m [2]model) []int {
	l := []int{}
	for _, v := range m {
		phase := 0
		if v.high {
			phase = 1
		}
		l = append(l, v.period, v.volume, v.rate, v.count, phase, v.fading)
	}
	return l
}

// tick is P12.2 for a voice.
func (m *model) tick() {
	if m.period > 0 {
		m.count++
		if m.count >= m.period {
			m.count, m.high = 0, !m.high
		}
	}
	if m.rate > 0 && m.volume > 0 {
		m.fading++
		if m.fading >= 64*m.rate {
			m.fading = 0
			m.volume--
		}
	}
}

// skip does tick k times.
func skip(m [2]model, k int) [2]model {
	for range k {
		m[0].tick()
		m[1].tick()
	}
	return m
}

// level is the sum of the volumes that are heard.
func level(m [2]model) int {
	sum := 0
	for _, v := range m {
		if v.high {
			sum += v.volume
		}
	}
	return sum
}

// random is a state with twelve numbers, near and far.
func random(r *rand.Rand) api.Dev {
	d := api.Dev{}
	for range 2 {
		d.N = append(d.N, r.Intn(300), r.Intn(16), r.Intn(6), r.Intn(300), r.Intn(2), r.Intn(400))
	}
	for at := range d.N {
		switch r.Intn(8) {
		case 0:
			d.N[at] = int(r.Uint64())
		case 1:
			d.N[at] = 0
		}
	}
	return d
}

// P12.2: all small voices, for more cycles than they have periods.
func TestSkipSmall(t *testing.T) {
	for period := range 5 {
		for count := range 6 {
			for volume := range 3 {
				for _, fading := range []int{0, 1, 62, 63, 64, 65} {
					d := chip(period, volume, 1, count, 0, fading, 3, 2, 1, count, 1, 0)
					m, ticked := modelled(d), d
					for k := range 200 {
						if got := sound.Skip(d, k); !is(got, numbers(m)...) {
							t.Fatalf("%v after %d cycles: %v, not %v", d, k, got, numbers(m))
						}
						if k > 0 && !is(ticked, numbers(m)...) {
							t.Fatalf("%v after %d cycles, one by one: %v, not %v", d, k, ticked, numbers(m))
						}
						m, ticked = skip(m, 1), sound.Tick(ticked)
					}
				}
			}
		}
	}
}

// P12.2: Skip does what so many ticks do, also in two parts.
func TestSkipIsTicks(t *testing.T) {
	r := rand.New(rand.NewSource(122))
	for range 3000 {
		d, first, second := random(r), r.Intn(500), r.Intn(20000)
		want := numbers(skip(modelled(d), first+second))
		if got := sound.Skip(d, first+second); !is(got, want...) {
			t.Fatalf("%v after %d cycles: %v, not %v", d, first+second, got, want)
		}
		if got := sound.Skip(sound.Skip(d, first), second); !is(got, want...) {
			t.Fatalf("%v after %d and %d cycles: %v, not %v", d, first, second, got, want)
		}
	}
}

// P12.2: as many cycles as can pass at once.
func TestSkipFar(t *testing.T) {
	r := rand.New(rand.NewSource(12))
	for _, more := range []int{-1, 0, 1, 1 << 50} {
		d := random(r)
		want := numbers(skip(modelled(d), 100*api.MaxRun+min(more, 0)))
		if got := sound.Skip(d, 100*api.MaxRun+more); !is(got, want...) {
			t.Errorf("%v: %v, not %v", d, got, want)
		}
	}
}

// P12.3: for as many cycles as Next says Out stays as it is, and behind them a phase or a volume changes.
func TestNextHolds(t *testing.T) {
	r := rand.New(rand.NewSource(123))
	for range 3000 {
		d := random(r)
		next, m := sound.Next(d), modelled(d)
		heard := level(m)
		for k := range min(next, 5000) {
			m = skip(m, 1)
			if d = sound.Tick(d); sound.Out(d) != heard || level(m) != heard {
				t.Fatalf("%v in cycle %d of %d: %d, not %d", d, k+1, next, sound.Out(d), heard)
			}
		}
		if next > 5000 {
			continue
		}
		after := skip(m, 1)
		changed := func(v int) bool { return after[v].high != m[v].high || after[v].volume != m[v].volume }
		if !changed(0) && !changed(1) {
			t.Fatalf("%v changes nothing after %d cycles", d, next)
		}
	}
}

// P12.1 to P12.3: long use of one chip against models with the same registers.
func TestUse(t *testing.T) {
	r := rand.New(rand.NewSource(121))
	d := sound.New()
	m := modelled(d)
	for range 20000 {
		at, data := r.Intn(10), r.Intn(1024)-512
		v := &m[at/4%2]
		low := (data + 512) % 256
		switch {
		case r.Intn(3) == 0:
			k := r.Intn(300) - 20
			d, m = sound.Skip(d, k), skip(m, max(k, 0))
		case r.Intn(2) == 0:
			want := append([]int{m[0].period % 256, m[0].period / 256, m[0].volume, m[0].rate, m[1].period % 256, m[1].period / 256, m[1].volume, m[1].rate}, 0, 0)
			var n int
			if d, n = sound.Read(d, at); n != want[at] {
				t.Fatalf("register %d of %v: %d, not %d", at, d, n, want[at])
			}
		default:
			d = sound.Write(d, at, data)
			switch {
			case at >= 8:
			case at%4 == 0:
				v.period = v.period/256*256 + low
			case at%4 == 1:
				v.period = v.period%256 + low%16*256
			case at%4 == 2:
				v.volume, v.fading = low%16, 0
			default:
				v.rate = low
			}
		}
		if want := numbers(m); !slices.Equal(d.N, want) || sound.Out(d) != level(m) {
			t.Fatalf("%v, not %v", d, want)
		}
	}
}
