package board_test

import (
	"math"
	"math/big"
	"math/rand"
	"slices"
	"testing"

	"bakelite/api"
	"bakelite/board"
)

// chips is a board with chips of these bases and sizes.
func chips(l ...[2]int) api.Board {
	var b api.Board
	for n, x := range l {
		b.Chips = append(b.Chips, api.Chip{Kind: n % api.NumKinds, Base: x[0], Size: x[1]})
	}
	return b
}

// model is Find in numbers of any size.
func model(b api.Board, addr int) (int, int, bool) {
	for n, c := range b.Chips {
		at := new(big.Int).Sub(big.NewInt(int64(addr)), big.NewInt(int64(c.Base)))
		if at.Sign() >= 0 && at.Cmp(big.NewInt(int64(c.Size))) < 0 {
			return n, int(at.Int64()), true
		}
	}
	return 0, 0, false
}

// owner is the number of the chip of an address in the ranges of a board.
func owner(b api.Board, addr int) int {
	if n, _, ok := model(b, addr); ok {
		return n
	}
	return -1
}

// find compares Find of an address with the model.
func find(t *testing.T, b api.Board, addr int) {
	t.Helper()
	n, at, ok := board.Find(b, addr)
	wantN, wantAt, wantOk := model(b, addr)
	if n != wantN || at != wantAt || ok != wantOk {
		t.Errorf("address %d of %v: %d, %d, %v, not %d, %d, %v", addr, b.Chips, n, at, ok, wantN, wantAt, wantOk)
	}
}

// P15.3
func TestFind(t *testing.T) {
	for _, x := range []struct {
		addr, n, at int
		ok          bool
	}{
		{0, 0, 0, true}, {1, 0, 1, true}, {255, 0, 255, true}, {256, 0, 0, false}, {1999, 0, 0, false}, {2000, 1, 0, true}, {2003, 1, 3, true}, {2004, 0, 0, false},
		{30000, 3, 0, true}, {30001, 3, 1, true}, {40000, 2, 0, true}, {40002, 2, 2, true}, {40003, 0, 0, false}, {65279, 0, 0, false}, {65280, 5, 0, true}, {65535, 5, 255, true},
		{-1, 0, 0, false}, {65536, 0, 0, false}, {65537, 0, 0, false}, {65536 + 2000, 0, 0, false}, {math.MinInt, 0, 0, false}, {math.MaxInt, 0, 0, false},
	} {
		if n, at, ok := board.Find(sample(), x.addr); n != x.n || at != x.at || ok != x.ok {
			t.Errorf("%d: %d, %d, %v", x.addr, n, at, ok)
		}
	}
	b := sample()
	for addr := -1000; addr < 70000; addr++ {
		find(t, b, addr)
	}
	if n, at, ok := board.Find(api.Board{}, 0); n != 0 || at != 0 || ok {
		t.Errorf("without chips: %d, %d, %v", n, at, ok)
	}
}

// edgy are numbers near which addresses may be told wrongly.
var edgy = []int{math.MinInt, math.MinInt + 1, math.MinInt + 2, math.MinInt / 2, -1 << 32, -65537, -65536, -2, -1, 0, 1, 2, 65535, 65536, 65537, 1 << 32, math.MaxInt / 2, math.MaxInt/2 + 1, math.MaxInt - 2, math.MaxInt - 1, math.MaxInt}

// P15.3: boards that are not valid, and addresses that are any numbers.
func TestFindFar(t *testing.T) {
	for _, base := range edgy {
		for _, size := range edgy {
			for _, addr := range edgy {
				find(t, chips([2]int{base, size}), addr)
				find(t, chips([2]int{7, 0}, [2]int{base, size}, [2]int{-3, 6}), addr)
			}
		}
	}
}

// P15.3: of several chips the first one has an address.
func TestFindFirst(t *testing.T) {
	for _, x := range []struct{ addr, n, at int }{{9, 3, 109}, {10, 1, 0}, {14, 1, 4}, {15, 0, 0}, {20, 0, 5}, {24, 0, 9}, {25, 1, 15}, {29, 1, 19}, {30, 3, 130}, {-100, 3, 0}} {
		b := chips([2]int{15, 10}, [2]int{10, 20}, [2]int{12, 8}, [2]int{-100, 1000})
		if n, at, ok := board.Find(b, x.addr); n != x.n || at != x.at || !ok {
			t.Errorf("%d: %d, %d, %v", x.addr, n, at, ok)
		}
	}
}

// painted are the ranges of a board, made address by address.
func painted(b api.Board) []board.Range {
	l := []board.Range{{Chip: owner(b, 0)}}
	for addr := range 65536 {
		if n := owner(b, addr); n != l[len(l)-1].Chip {
			l[len(l)-1].To = addr
			l = append(l, board.Range{From: addr, Chip: n})
		}
	}
	l[len(l)-1].To = 65536
	return l
}

// P15.5
func TestMap(t *testing.T) {
	whole := func(n int) []board.Range { return []board.Range{{From: 0, To: 65536, Chip: n}} }
	for n, x := range []struct {
		b    api.Board
		want []board.Range
	}{
		{sample(), []board.Range{{0, 256, 0}, {256, 2000, -1}, {2000, 2004, 1}, {2004, 20000, -1}, {20000, 20004, 4}, {20004, 30000, -1}, {30000, 30002, 3}, {30002, 40000, -1}, {40000, 40003, 2}, {40003, 65280, -1}, {65280, 65536, 5}}},
		{timers(2), []board.Range{{0, 4, 0}, {4, 8, 1}, {8, 65536, -1}}},
		{chips([2]int{8, 4}, [2]int{4, 4}), []board.Range{{0, 4, -1}, {4, 8, 1}, {8, 12, 0}, {12, 65536, -1}}},
		{chips([2]int{65535, 1}), []board.Range{{0, 65535, -1}, {65535, 65536, 0}}},
		// not valid
		{chips([2]int{0, 65536}), whole(0)},
		{chips([2]int{-1, 65538}), whole(0)},
		{chips([2]int{5, 0}, [2]int{9, -1}, [2]int{math.MaxInt, math.MinInt}), whole(-1)},
		{chips([2]int{-5, 5}, [2]int{65536, 1}), whole(-1)},
		{chips([2]int{-5, 6}, [2]int{65535, 9}), []board.Range{{0, 1, 0}, {1, 65535, -1}, {65535, 65536, 1}}},
		{chips([2]int{math.MinInt, math.MaxInt}), whole(-1)},
		{chips([2]int{3, math.MaxInt}), []board.Range{{0, 3, -1}, {3, 65536, 0}}},
		{chips([2]int{-3, math.MaxInt}, [2]int{9, 9}), whole(0)},
		{chips([2]int{10, 10}, [2]int{0, 100}), []board.Range{{0, 10, 1}, {10, 20, 0}, {20, 100, 1}, {100, 65536, -1}}},
		{chips([2]int{0, 100}, [2]int{10, 10}, [2]int{50, 100}), []board.Range{{0, 100, 0}, {100, 150, 2}, {150, 65536, -1}}},
		{chips([2]int{10, 10}, [2]int{10, 10}, [2]int{15, 10}), []board.Range{{0, 10, -1}, {10, 20, 0}, {20, 25, 2}, {25, 65536, -1}}},
	} {
		if l := board.Map(x.b); !slices.Equal(l, x.want) {
			t.Errorf("board %d: %v, not %v", n, l, x.want)
		}
	}
}

// The chapter's example: a board without chips has one range, from 0 to 65536.
func TestExample(t *testing.T) {
	for _, b := range []api.Board{{}, {Name: "b", Cpu: api.Cpu{Name: "c"}, Chips: []api.Chip{}}} {
		if l := board.Map(b); !slices.Equal(l, []board.Range{{From: 0, To: 65536, Chip: -1}}) {
			t.Error(l)
		}
	}
}

// P15.5: chips anywhere, over each other, and beyond the addresses.
func TestMapRandom(t *testing.T) {
	r := rand.New(rand.NewSource(155))
	for range 30 {
		var l [][2]int
		for range r.Intn(14) {
			base, size := r.Intn(80000)-8000, r.Intn(9000)-500
			switch r.Intn(5) {
			case 0:
				base, size = r.Intn(12), r.Intn(8)
			case 1:
				base, size = 65530+r.Intn(12), r.Intn(8)
			case 2:
				base = edgy[r.Intn(len(edgy))]
			}
			l = append(l, [2]int{base, size})
		}
		b := chips(l...)
		if got, want := board.Map(b), painted(b); !slices.Equal(got, want) {
			t.Errorf("%v: %v, not %v", l, got, want)
		}
	}
}

// P15.5: extreme bases and sizes.
func TestMapFar(t *testing.T) {
	for _, base := range edgy {
		for _, size := range edgy {
			b := chips([2]int{base, size}, [2]int{100, 50})
			l := board.Map(b)
			for n, x := range l {
				if x.From >= x.To || n > 0 && (l[n-1].To != x.From || l[n-1].Chip == x.Chip) {
					t.Errorf("base %d, size %d: %v", base, size, l)
				}
				for _, addr := range []int{x.From, (x.From + x.To) / 2, x.To - 1} {
					if owner(b, addr) != x.Chip {
						t.Errorf("base %d, size %d, address %d: %v", base, size, addr, l)
					}
				}
			}
			if l[0].From != 0 || l[len(l)-1].To != 65536 {
				t.Errorf("base %d, size %d: %v", base, size, l)
			}
		}
	}
}
