package bit_test

import (
	"math"
	"math/big"
	"testing"

	"bakelite/bit"
)

// numbers are ordinary and extreme arguments.
var numbers = []int{
	0, 1, 2, 3, 5, 6, 9, 10, 15, 16, 44, 99, 100, 127, 128, 129, 200, 255, 256, 300, 1987, 0x1987, 0x1A87, 65535, 65536,
	1<<32 - 1, 1 << 32, 123456789012345, 999999999999999, 1000000000000000, 0x999999999999999, 0xA99999999999999,
	1<<59 + 7, 1 << 60, 1<<61 - 1, 1 << 61, 1<<61 + 5, 1<<62 - 1, 1 << 62, 1<<62 + 9, math.MaxInt - 1, math.MaxInt,
	-1, -2, -3, -7, -128, -129, -255, -256, -1987, -1 << 32, -1 << 61, -1<<61 - 1, -1 << 62, -1<<62 - 1, math.MinInt + 1, math.MinInt,
}

// sizes are ordinary and extreme numbers of bits, digits and places.
var sizes = []int{math.MinInt, -64, -5, -1, 0, 1, 2, 3, 4, 7, 8, 9, 14, 15, 16, 17, 31, 32, 33, 59, 60, 61, 62, 63, 64, 65, 128, math.MaxInt}

// carries are carries of which only the lowest bit counts.
var carries = []int{0, 1, 2, 3, -1, -2, math.MaxInt, math.MinInt}

func clamp(n, low, high int) int {
	if n < low {
		return low
	}
	if n > high {
		return high
	}
	return n
}

func power(base, exponent int) *big.Int {
	return new(big.Int).Exp(big.NewInt(int64(base)), big.NewInt(int64(exponent)), nil)
}

// modulus is 2 to the number of bits that a function is given.
func modulus(bits int) *big.Int { return power(2, clamp(bits, 0, 62)) }

func low(n, bits int) *big.Int { return modulo(big.NewInt(int64(n)), modulus(bits)) }

// modulo and divide round down: the divisors of this file are positive.
func modulo(n, m *big.Int) *big.Int { return new(big.Int).Mod(n, m) }
func divide(n, m *big.Int) *big.Int { return new(big.Int).Div(n, m) }

func plus(a, b *big.Int) *big.Int  { return new(big.Int).Add(a, b) }
func minus(a, b *big.Int) *big.Int { return new(big.Int).Sub(a, b) }
func times(a, b *big.Int) *big.Int { return new(big.Int).Mul(a, b) }

func carried(carry int) *big.Int { return modulo(big.NewInt(int64(carry)), big.NewInt(2)) }

func is(n int, want *big.Int) bool { return want.IsInt64() && int64(n) == want.Int64() }

// bitAt is the bit at a place of a number in two's complement.
func bitAt(n, at int) int { return n >> at & 1 }

func TestMaxBits(t *testing.T) {
	if bit.MaxBits != 62 {
		t.Error(bit.MaxBits)
	}
}

// P1.1
func TestLowExamples(t *testing.T) {
	for _, c := range []struct{ n, bits, want int }{
		{300, 8, 44}, {256, 8, 0}, {255, 8, 255}, {-1, 8, 255}, {-256, 8, 0}, {-257, 8, 255}, {5, 0, 0}, {5, -3, 0}, {5, math.MinInt, 0},
		{-1, 62, 1<<62 - 1}, {-1, 63, 1<<62 - 1}, {-1, math.MaxInt, 1<<62 - 1}, {1 << 62, 64, 0}, {math.MinInt, 62, 0}, {math.MaxInt, 1, 1},
	} {
		if n := bit.Low(c.n, c.bits); n != c.want {
			t.Errorf("Low(%d, %d): %d, not %d", c.n, c.bits, n, c.want)
		}
	}
}

// P1.1
func TestSignedExamples(t *testing.T) {
	for _, c := range []struct{ n, bits, want int }{
		{127, 8, 127}, {128, 8, -128}, {255, 8, -1}, {256, 8, 0}, {300, 8, 44}, {-1, 8, -1}, {-129, 8, 127}, {1, 1, -1}, {2, 1, 0},
		{5, 0, 0}, {-1, 0, 0}, {-1, -3, 0}, {6, 3, -2}, {1<<61 - 1, 62, 1<<61 - 1}, {1 << 61, 62, -1 << 61}, {1 << 61, 99, -1 << 61},
	} {
		if n := bit.Signed(c.n, c.bits); n != c.want {
			t.Errorf("Signed(%d, %d): %d, not %d", c.n, c.bits, n, c.want)
		}
	}
}

// P1.1
func TestLowAndSigned(t *testing.T) {
	for _, n := range numbers {
		for _, bits := range sizes {
			want := low(n, bits)
			if got := bit.Low(n, bits); !is(got, want) {
				t.Errorf("Low(%d, %d): %d, not %v", n, bits, got, want)
			}
			if times(want, big.NewInt(2)).Cmp(modulus(bits)) >= 0 && clamp(bits, 0, 62) > 0 {
				want = minus(want, modulus(bits))
			}
			if got := bit.Signed(n, bits); !is(got, want) {
				t.Errorf("Signed(%d, %d): %d, not %v", n, bits, got, want)
			}
		}
	}
}

// P1.2
func TestAddAndSubExamples(t *testing.T) {
	for _, c := range []struct{ a, b, carry, bits, sum, out, less, borrow int }{
		{200, 100, 0, 8, 44, 1, 100, 0}, {200, 55, 0, 8, 255, 0, 145, 0}, {200, 55, 1, 8, 0, 1, 144, 0}, {5, 7, 0, 4, 12, 0, 14, 1},
		{7, 7, 0, 8, 14, 0, 0, 0}, {7, 7, 1, 8, 15, 0, 255, 1}, {7, 7, 2, 8, 14, 0, 0, 0}, {7, 7, -1, 8, 15, 0, 255, 1},
		{-1, -1, 1, 8, 255, 1, 255, 1}, {300, 1, 0, 8, 45, 0, 43, 0}, {9, 9, 0, 0, 0, 0, 0, 0}, {9, 9, 1, 0, 0, 1, 0, 1}, {9, 9, 3, -7, 0, 1, 0, 1},
		{-1, -1, 1, 62, 1<<62 - 1, 1, 1<<62 - 1, 1}, {-1, 1, 0, 70, 0, 1, 1<<62 - 2, 0},
	} {
		if n, out := bit.Add(c.a, c.b, c.carry, c.bits); n != c.sum || out != c.out {
			t.Errorf("Add(%d, %d, %d, %d): %d, %d", c.a, c.b, c.carry, c.bits, n, out)
		}
		if n, out := bit.Sub(c.a, c.b, c.carry, c.bits); n != c.less || out != c.borrow {
			t.Errorf("Sub(%d, %d, %d, %d): %d, %d", c.a, c.b, c.carry, c.bits, n, out)
		}
	}
}

// P1.2
func TestAddAndSub(t *testing.T) {
	for _, a := range numbers {
		for _, b := range numbers {
			for _, bits := range sizes {
				for _, carry := range carries {
					testAddAndSub(t, a, b, carry, bits)
				}
			}
		}
	}
}

func testAddAndSub(t *testing.T, a, b, carry, bits int) {
	sum := plus(plus(low(a, bits), low(b, bits)), carried(carry))
	if n, out := bit.Add(a, b, carry, bits); !is(n, modulo(sum, modulus(bits))) || (out == 1) != (sum.Cmp(modulus(bits)) >= 0) || out>>1 != 0 {
		t.Fatalf("Add(%d, %d, %d, %d): %d, %d", a, b, carry, bits, n, out)
	}
	difference := minus(minus(low(a, bits), low(b, bits)), carried(carry))
	if n, out := bit.Sub(a, b, carry, bits); !is(n, modulo(difference, modulus(bits))) || (out == 1) != (difference.Sign() < 0) || out>>1 != 0 {
		t.Fatalf("Sub(%d, %d, %d, %d): %d, %d", a, b, carry, bits, n, out)
	}
}

// P1.3
func TestRolAndRorExamples(t *testing.T) {
	for _, c := range []struct{ n, carry, bits, rol, left, ror, right int }{
		{129, 0, 8, 2, 1, 64, 1}, {129, 1, 8, 3, 1, 192, 1}, {64, 0, 8, 128, 0, 32, 0}, {64, 2, 8, 128, 0, 32, 0}, {64, -1, 8, 129, 0, 160, 0},
		{-1, 0, 8, 254, 1, 127, 1}, {256, 1, 8, 1, 0, 128, 0}, {9, 0, 0, 0, 0, 0, 0}, {9, 1, 0, 0, 1, 0, 1}, {9, 1, -1, 0, 1, 0, 1}, {1, 0, 1, 0, 1, 0, 1},
		{-1, 1, 62, 1<<62 - 1, 1, 1<<62 - 1, 1}, {1 << 61, 0, 63, 0, 1, 1 << 60, 0},
	} {
		if n, out := bit.Rol(c.n, c.carry, c.bits); n != c.rol || out != c.left {
			t.Errorf("Rol(%d, %d, %d): %d, %d", c.n, c.carry, c.bits, n, out)
		}
		if n, out := bit.Ror(c.n, c.carry, c.bits); n != c.ror || out != c.right {
			t.Errorf("Ror(%d, %d, %d): %d, %d", c.n, c.carry, c.bits, n, out)
		}
	}
}

// P1.3
func TestRolAndRor(t *testing.T) {
	two := big.NewInt(2)
	for _, n := range numbers {
		for _, bits := range sizes {
			for _, carry := range carries {
				left := plus(times(low(n, bits), two), carried(carry))
				if got, out := bit.Rol(n, carry, bits); !is(got, modulo(left, modulus(bits))) || !is(out, divide(left, modulus(bits))) {
					t.Errorf("Rol(%d, %d, %d): %d, %d", n, carry, bits, got, out)
				}
				right := plus(low(n, bits), times(carried(carry), modulus(bits)))
				if got, out := bit.Ror(n, carry, bits); !is(got, divide(right, two)) || !is(out, modulo(right, two)) {
					t.Errorf("Ror(%d, %d, %d): %d, %d", n, carry, bits, got, out)
				}
			}
		}
	}
}

// P1.4
func TestGetAndPutExamples(t *testing.T) {
	for _, c := range []struct{ n, at, size, want int }{
		{0x1234, 4, 8, 0x23}, {0x1234, 0, 4, 4}, {0x1234, -5, 4, 4}, {0x1234, 8, 0, 0}, {0x1234, 8, -1, 0}, {255, 60, 9, 0}, {-1, 60, 9, 3},
		{-1, 61, 1, 1}, {-1, 62, 1, 0}, {-1, 99, 9, 0}, {-1, 0, 99, 1<<62 - 1}, {math.MinInt, 0, 62, 0}, {-1, math.MinInt, math.MaxInt, 1<<62 - 1}, {-1, math.MaxInt, math.MaxInt, 0},
	} {
		if n := bit.Get(c.n, c.at, c.size); n != c.want {
			t.Errorf("Get(%#x, %d, %d): %#x, not %#x", c.n, c.at, c.size, n, c.want)
		}
	}
	for _, c := range []struct{ n, at, size, v, want int }{
		{0x1234, 4, 8, 0xFAB, 0x1AB4}, {0x1234, 4, 8, 0, 0x1004}, {0, -5, 4, 31, 15}, {0x1234, 4, 0, -1, 0x1234}, {0x1234, 4, -9, -1, 0x1234}, {0x1234, 4, 4, -1, 0x12F4},
		{0, 60, 9, -1, 3 << 60}, {-1, 60, 9, 0, 1<<60 - 1}, {-1, 62, 5, 0, 1<<62 - 1}, {-1, 99, 5, 0, 1<<62 - 1}, {math.MinInt, 3, 1, 1, 8}, {7, 0, 99, -1, 1<<62 - 1},
	} {
		if n := bit.Put(c.n, c.at, c.size, c.v); n != c.want {
			t.Errorf("Put(%#x, %d, %d, %#x): %#x, not %#x", c.n, c.at, c.size, c.v, n, c.want)
		}
	}
}

// P1.4
func TestGetAndPut(t *testing.T) {
	for _, n := range numbers {
		for _, at := range sizes {
			for _, size := range sizes {
				first := clamp(at, 0, 62)
				end := first + clamp(size, 0, 62-first)
				testGet(t, n, at, size, first, end)
				for _, v := range []int{0, 1, 0x5A5A, -1, math.MaxInt, math.MinInt} {
					testPut(t, n, at, size, v, first, end)
				}
			}
		}
	}
}

func testGet(t *testing.T, n, at, size, first, end int) {
	want := 0
	for place := first; place < end; place++ {
		want += bitAt(n, place) << (place - first)
	}
	if got := bit.Get(n, at, size); got != want {
		t.Fatalf("Get(%#x, %d, %d): %#x, not %#x", n, at, size, got, want)
	}
}

func testPut(t *testing.T, n, at, size, v, first, end int) {
	want := 0
	for place := range 62 {
		b := bitAt(n, place)
		if first <= place && place < end {
			b = bitAt(v, place-first)
		}
		want += b << place
	}
	if got := bit.Put(n, at, size, v); got != want {
		t.Fatalf("Put(%#x, %d, %d, %#x): %#x, not %#x", n, at, size, v, got, want)
	}
}

// P1.5
func TestCountAndTurnExamples(t *testing.T) {
	for _, c := range []struct{ n, want int }{{0, 0}, {1, 1}, {255, 8}, {0x1234, 5}, {-1, 62}, {-2, 61}, {1 << 61, 1}, {1 << 62, 0}, {math.MinInt, 0}, {math.MaxInt, 62}} {
		if n := bit.Count(c.n); n != c.want {
			t.Errorf("Count(%d): %d, not %d", c.n, n, c.want)
		}
	}
	for _, c := range []struct{ n, bits, want int }{
		{300, 8, 52}, {128, 8, 1}, {1, 8, 128}, {6, 3, 3}, {6, 4, 6}, {5, 0, 0}, {5, -3, 0}, {-1, 8, 255}, {-2, 8, 127}, {1, 1, 1},
		{1, 62, 1 << 61}, {1 << 61, 62, 1}, {1, 64, 1 << 61}, {1 << 62, 64, 0}, {-1, 62, 1<<62 - 1},
	} {
		if n := bit.Turn(c.n, c.bits); n != c.want {
			t.Errorf("Turn(%d, %d): %d, not %d", c.n, c.bits, n, c.want)
		}
	}
}

// P1.5
func TestCountAndTurn(t *testing.T) {
	for _, n := range numbers {
		count := 0
		for place := range 62 {
			count += bitAt(n, place)
		}
		if got := bit.Count(n); got != count {
			t.Errorf("Count(%d): %d, not %d", n, got, count)
		}
		for _, bits := range sizes {
			many, want := clamp(bits, 0, 62), 0
			for place := range many {
				want += bitAt(n, place) << (many - 1 - place)
			}
			if got := bit.Turn(n, bits); got != want {
				t.Errorf("Turn(%d, %d): %d, not %d", n, bits, got, want)
			}
		}
	}
}

// P1.6
func TestDigitsExamples(t *testing.T) {
	for _, c := range []struct {
		n, many, want int
		fits          bool
	}{
		{1987, 4, 0x1987, true}, {1987, 5, 0x1987, true}, {1987, 3, 0x987, false}, {1000, 3, 0, false}, {999, 3, 0x999, true},
		{0, 4, 0, true}, {0, 0, 0, true}, {0, -1, 0, true}, {0, 99, 0, true}, {7, 0, 0, false}, {7, -1, 0, false}, {7, math.MinInt, 0, false},
		{-1, 3, 0, false}, {-1, 0, 0, false}, {math.MinInt, 15, 0, false},
		{999999999999999, 15, 0x999999999999999, true}, {1000000000000000, 15, 0, false}, {1000000000000000, 16, 0, false}, {math.MaxInt, math.MaxInt, 0x372036854775807, false},
	} {
		if n, fits := bit.Digits(c.n, c.many); n != c.want || fits != c.fits {
			t.Errorf("Digits(%d, %d): %#x, %v", c.n, c.many, n, fits)
		}
	}
}

// P1.6
func TestNumberExamples(t *testing.T) {
	for _, c := range []struct {
		n, many, want int
		ok            bool
	}{
		{0x1987, 4, 1987, true}, {0x1987, 3, 987, true}, {0x1987, 9, 1987, true}, {0x1A87, 4, 0, false}, {0x1A87, 2, 87, true}, {0xA, 1, 0, false}, {0xA, 0, 0, true}, {0xF9, 2, 0, false},
		{0, 4, 0, true}, {-1, 0, 0, true}, {-1, -8, 0, true}, {-1, 15, 0, false}, {-8, 1, 8, true}, {-8, 2, 0, false},
		{0x999999999999999, 15, 999999999999999, true}, {0x5999999999999999, 16, 999999999999999, true}, {math.MinInt, math.MaxInt, 0, true}, {math.MaxInt, 1, 0, false}, {0xA00000000000000, 15, 0, false}, {0xA00000000000000, 14, 0, true},
	} {
		if n, ok := bit.Number(c.n, c.many); n != c.want || ok != c.ok {
			t.Errorf("Number(%#x, %d): %d, %v", c.n, c.many, n, ok)
		}
	}
}

// P1.6
func TestDigitsAndNumber(t *testing.T) {
	for _, n := range numbers {
		for _, many := range sizes {
			testDigits(t, n, many)
			testNumber(t, n, many)
		}
	}
}

func testDigits(t *testing.T, n, many int) {
	want, fits := new(big.Int), false
	if n >= 0 {
		places := clamp(many, 0, 15)
		fits = big.NewInt(int64(n)).Cmp(power(10, places)) < 0
		for place := range places {
			digit := modulo(divide(big.NewInt(int64(n)), power(10, place)), big.NewInt(10))
			want = plus(want, times(digit, power(16, place)))
		}
	}
	if got, ok := bit.Digits(n, many); !is(got, want) || ok != fits {
		t.Errorf("Digits(%d, %d): %#x, %v", n, many, got, ok)
	}
}

func testNumber(t *testing.T, n, many int) {
	want, fits := new(big.Int), true
	for place := range clamp(many, 0, 15) {
		digit := modulo(divide(big.NewInt(int64(n)), power(16, place)), big.NewInt(16))
		fits = fits && digit.Int64() <= 9
		want = plus(want, times(digit, power(10, place)))
	}
	if !fits {
		want = new(big.Int)
	}
	if got, ok := bit.Number(n, many); !is(got, want) || ok != fits {
		t.Errorf("Number(%#x, %d): %d, %v", n, many, got, ok)
	}
}

// all returns the results of all functions for the same arguments.
func all(a, b, c, d int) (results [20]int, fits [2]bool) {
	results[0], results[1] = bit.Low(a, b), bit.Signed(a, b)
	results[2], results[3] = bit.Add(a, b, c, d)
	results[4], results[5] = bit.Sub(a, b, c, d)
	results[6], results[7] = bit.Rol(a, b, c)
	results[8], results[9] = bit.Ror(a, b, c)
	results[10], results[11] = bit.Get(a, b, c), bit.Put(a, b, c, d)
	results[12], results[13] = bit.Count(a), bit.Turn(a, b)
	results[14], fits[0] = bit.Digits(a, b)
	results[15], fits[1] = bit.Number(a, b)
	return results, fits
}

// Z1: no arguments make a function panic. Z2: earlier calls change no result.
func TestExtremes(t *testing.T) {
	extremes := []int{math.MinInt, math.MinInt + 1, -1 << 62, -65, -1, 0, 1, 61, 62, 63, 64, 65, 1 << 62, math.MaxInt - 1, math.MaxInt}
	type arguments struct{ a, b, c, d int }
	type answers struct {
		results [20]int
		fits    [2]bool
	}
	first := map[arguments]answers{}
	for _, a := range extremes {
		for _, b := range extremes {
			for _, c := range extremes {
				for _, d := range extremes {
					results, fits := all(a, b, c, d)
					first[arguments{a, b, c, d}] = answers{results, fits}
				}
			}
		}
	}
	// A map is ranged over in another order, so each call follows another one now.
	for args, want := range first {
		results, fits := all(args.a, args.b, args.c, args.d)
		if (answers{results, fits}) != want {
			t.Fatalf("%v: %v, %v, but at first %v", args, results, fits, want)
		}
	}
}
