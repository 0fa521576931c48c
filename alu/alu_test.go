package alu

import (
	"math"
	"math/big"
	"testing"

	"glacis/api"
	"glacis/flt"
	"glacis/isa"
)

const (
	least    = uint64(1) << 63
	greatest = least - 1
	minus    = ^uint64(0) // -1
)

// Numbers with a point, by their bits, written down without the package flt.
const (
	zero     = 0x0000000000000000
	negative = 0x8000000000000000 // -0
	tiny     = 0x0000000000000001
	half     = 0x3FE0000000000000
	one      = 0x3FF0000000000000
	two      = 0x4000000000000000
	three    = 0x4008000000000000
	four     = 0x4010000000000000
	infinite = 0x7FF0000000000000
	none     = 0x7FF8000000000000
	other    = 0xFFF0000000000001 // another one that is no number
)

// edges are the numbers that every pair of a test is made of.
var edges = []uint64{
	0, 1, 2, 3, 4, 5, 7, 31, 32, 62, 63, 64, 65, 127, 128, 255, 1 << 31, 1<<32 - 1, 1 << 32, 1<<32 + 1, 0x0123456789ABCDEF, 0xFEDCBA9876543210,
	greatest - 1, greatest, least, least + 1, minus - 63, minus - 6, minus - 3, minus - 2, minus - 1, minus,
	tiny, half, one, two, three, four, infinite, none, other, infinite | least, one | least, three | least, 0x43E0000000000000, 0x000FFFFFFFFFFFFF, 0x0010000000000000,
}

// strangers are numbers that no operation has, or only by their lowest bits.
var strangers = []int{math.MinInt, math.MinInt32, -256, -43, -1, 0, 44, 45, 255, 256, 256 + isa.Add, 256 + isa.Fadd, 256 + isa.Beq, 256 + isa.Ld, 1<<32 + isa.Add, math.MaxInt32, math.MaxInt}

// pairs ranges over all pairs of edges.
func pairs(yield func(a, b uint64) bool) {
	for _, a := range edges {
		for _, b := range edges {
			if !yield(a, b) {
				return
			}
		}
	}
}

func unsigned(x uint64) *big.Int { return new(big.Int).SetUint64(x) }

func signed(x uint64) *big.Int {
	n := unsigned(x)
	if x >= least {
		n.Sub(n, new(big.Int).Lsh(big.NewInt(1), 64))
	}
	return n
}

// bits are a number's lowest 64 bits.
func bits(n *big.Int) uint64 {
	return new(big.Int).Mod(n, new(big.Int).Lsh(big.NewInt(1), 64)).Uint64()
}

func number(holds bool) uint64 {
	if holds {
		return 1
	}
	return 0
}

// wholes are the operations of whole numbers, worked out in numbers of any length.
var wholes = map[int]func(a, b uint64) *big.Int{
	isa.Add:  func(a, b uint64) *big.Int { return new(big.Int).Add(unsigned(a), unsigned(b)) },
	isa.Sub:  func(a, b uint64) *big.Int { return new(big.Int).Sub(unsigned(a), unsigned(b)) },
	isa.Mul:  func(a, b uint64) *big.Int { return new(big.Int).Mul(unsigned(a), unsigned(b)) },
	isa.Div:  func(a, b uint64) *big.Int { return new(big.Int).Quo(signed(a), signed(b)) },
	isa.Rem:  func(a, b uint64) *big.Int { return new(big.Int).Rem(signed(a), signed(b)) },
	isa.And:  func(a, b uint64) *big.Int { return new(big.Int).And(unsigned(a), unsigned(b)) },
	isa.Or:   func(a, b uint64) *big.Int { return new(big.Int).Or(unsigned(a), unsigned(b)) },
	isa.Xor:  func(a, b uint64) *big.Int { return new(big.Int).Xor(unsigned(a), unsigned(b)) },
	isa.Shl:  func(a, b uint64) *big.Int { return new(big.Int).Mul(unsigned(a), power(b)) },
	isa.Shr:  func(a, b uint64) *big.Int { return new(big.Int).Div(unsigned(a), power(b)) },
	isa.Sar:  func(a, b uint64) *big.Int { return new(big.Int).Div(signed(a), power(b)) },
	isa.Slt:  func(a, b uint64) *big.Int { return unsigned(number(signed(a).Cmp(signed(b)) < 0)) },
	isa.Sltu: func(a, b uint64) *big.Int { return unsigned(number(unsigned(a).Cmp(unsigned(b)) < 0)) },
	isa.Eq:   func(a, b uint64) *big.Int { return unsigned(number(unsigned(a).Cmp(unsigned(b)) == 0)) },
}

// power is 2 to the b modulo 64.
func power(b uint64) *big.Int {
	n := new(big.Int).Mod(unsigned(b), big.NewInt(64))
	return new(big.Int).Exp(big.NewInt(2), n, nil)
}

// points are the operations of numbers with a point, as the chapter names layer 1's calls.
var points = map[int]func(a, b uint64) uint64{
	isa.Fadd:   flt.Add,
	isa.Fsub:   flt.Sub,
	isa.Fmul:   flt.Mul,
	isa.Fdiv:   flt.Div,
	isa.Fmin:   flt.Min,
	isa.Fmax:   flt.Max,
	isa.Flt:    func(a, b uint64) uint64 { return number(flt.Less(a, b)) },
	isa.Feq:    func(a, b uint64) uint64 { return number(flt.Equal(a, b)) },
	isa.Fsqrt:  func(a, _ uint64) uint64 { return flt.Sqrt(a) },
	isa.Ftoi:   func(a, _ uint64) uint64 { return bits(big.NewInt(flt.ToInt(a))) },
	isa.Itof:   func(a, _ uint64) uint64 { return flt.FromInt(signed(a).Int64()) },
	isa.Fclass: func(a, _ uint64) uint64 { return uint64(flt.Class(a)) },
}

func checkReckon(t *testing.T, op int, a, b, want uint64, can bool) {
	t.Helper()
	if got, ok := Reckon(op, a, b); got != want || ok != can {
		t.Fatalf("Reckon(%d, %#x, %#x) is %#x, %v, not %#x, %v", op, a, b, got, ok, want, can)
	}
}

func TestReckonWhole(t *testing.T) {
	if len(wholes) != isa.Eq-isa.Add+1 {
		t.Fatalf("%d operations", len(wholes))
	}
	for op, reckoned := range wholes {
		for a, b := range pairs {
			if b == 0 && (op == isa.Div || op == isa.Rem) {
				checkReckon(t, op, a, b, 0, false)
				continue
			}
			checkReckon(t, op, a, b, bits(reckoned(a, b)), true)
		}
	}
}

func TestReckonFloating(t *testing.T) {
	if len(points) != isa.Fclass-isa.Fadd+1 {
		t.Fatalf("%d operations", len(points))
	}
	for op, reckoned := range points {
		for a, b := range pairs {
			checkReckon(t, op, a, b, reckoned(a, b), true)
		}
	}
}

// The values of this table are worked out by hand.
func TestReckonByHand(t *testing.T) {
	for _, c := range []struct {
		op         int
		a, b, want uint64
	}{
		{isa.Add, minus, 1, 0},
		{isa.Add, greatest, 1, least},
		{isa.Sub, 0, 1, minus},
		{isa.Sub, 3, 5, minus - 1},
		{isa.Mul, 1 << 32, 1 << 32, 0},
		{isa.Mul, minus, minus, 1},
		{isa.Div, 7, 2, 3},
		{isa.Div, minus - 6, 2, minus - 2},
		{isa.Div, 7, minus - 1, minus - 2},
		{isa.Div, minus - 6, minus - 1, 3},
		{isa.Div, least, minus, least},
		{isa.Div, least, 1, least},
		{isa.Div, greatest, minus, least + 1},
		{isa.Div, 1, least, 0},
		{isa.Rem, 7, 4, 3},
		{isa.Rem, minus - 6, 4, minus - 2},
		{isa.Rem, 7, minus - 3, 3},
		{isa.Rem, minus - 6, minus - 3, minus - 2},
		{isa.Rem, least, minus, 0},
		{isa.Rem, 5, least, 5},
		{isa.And, 12, 10, 8},
		{isa.Or, 12, 10, 14},
		{isa.Xor, 12, 10, 6},
		{isa.Shl, 1, 63, least},
		{isa.Shl, 1, 64, 1},
		{isa.Shl, 1, 65, 2},
		{isa.Shl, 3, minus, least},
		{isa.Shr, least, 63, 1},
		{isa.Shr, least, 64, least},
		{isa.Shr, least, 65, 1 << 62},
		{isa.Shr, minus, minus, 1},
		{isa.Sar, least, 63, minus},
		{isa.Sar, least, 64, least},
		{isa.Sar, least, 65, 3 << 62},
		{isa.Sar, greatest, 62, 1},
		{isa.Sar, greatest, 63, 0},
		{isa.Sar, minus, minus, minus},
		{isa.Slt, minus, 0, 1},
		{isa.Slt, 0, minus, 0},
		{isa.Slt, least, greatest, 1},
		{isa.Slt, 5, 5, 0},
		{isa.Sltu, minus, 0, 0},
		{isa.Sltu, 0, minus, 1},
		{isa.Sltu, least, greatest, 0},
		{isa.Sltu, 5, 5, 0},
		{isa.Eq, minus, minus, 1},
		{isa.Eq, least, 0, 0},
		{isa.Fadd, one, two, three},
		{isa.Fadd, zero, negative, zero},
		{isa.Fadd, other, one, none},
		{isa.Fsub, three, one, two},
		{isa.Fsub, infinite, infinite, none},
		{isa.Fmul, two, half, one},
		{isa.Fmul, zero, infinite, none},
		{isa.Fdiv, one, two, half},
		{isa.Fdiv, one, zero, infinite},
		{isa.Fdiv, one, negative, infinite | least},
		{isa.Fdiv, zero, zero, none},
		{isa.Fmin, zero, negative, negative},
		{isa.Fmin, two, one, one},
		{isa.Fmin, one, other, none},
		{isa.Fmax, negative, zero, zero},
		{isa.Fmax, two, one, two},
		{isa.Fmax, other, one, none},
		{isa.Flt, one, two, 1},
		{isa.Flt, two, one, 0},
		{isa.Flt, negative, zero, 0},
		{isa.Flt, none, one, 0},
		{isa.Feq, zero, negative, 1},
		{isa.Feq, none, none, 0},
		{isa.Feq, one, two, 0},
		{isa.Fsqrt, four, three, two},
		{isa.Fsqrt, negative, one, negative},
		{isa.Fsqrt, one | least, 0, none},
		{isa.Ftoi, three | least, 9, minus - 2},
		{isa.Ftoi, half, 9, 0},
		{isa.Ftoi, none, 9, 0},
		{isa.Ftoi, infinite, 0, greatest},
		{isa.Ftoi, infinite | least, 0, least},
		{isa.Itof, 3, 9, three},
		{isa.Itof, minus, 9, one | least},
		{isa.Itof, least, 0, 0xC3E0000000000000},
		{isa.Fclass, negative, one, 0},
		{isa.Fclass, tiny, one, 1},
		{isa.Fclass, one | least, zero, 2},
		{isa.Fclass, infinite | least, one, 3},
		{isa.Fclass, other, one, 4},
	} {
		checkReckon(t, c.op, c.a, c.b, c.want, true)
	}
}

func TestReckonNothing(t *testing.T) {
	for op := isa.Halt; op <= isa.Trap; op++ {
		if wholes[op] != nil || points[op] != nil {
			continue
		}
		for a, b := range pairs {
			checkReckon(t, op, a, b, 0, false)
		}
	}
	for _, op := range strangers {
		for a, b := range pairs {
			checkReckon(t, op, a, b, 0, false)
		}
	}
	checkReckon(t, isa.Div, 7, 0, 0, false)
	checkReckon(t, isa.Div, 0, 0, 0, false)
	checkReckon(t, isa.Rem, least, 0, 0, false)
}

func checkTakes(t *testing.T, op int, a, b uint64, want bool) {
	t.Helper()
	if Takes(op, a, b) != want {
		t.Fatalf("Takes(%d, %#x, %#x) is %v", op, a, b, !want)
	}
}

func TestTakes(t *testing.T) {
	for a, b := range pairs {
		for op := isa.Halt; op <= isa.Trap; op++ {
			want := false
			switch op {
			case isa.Beq:
				want = unsigned(a).Cmp(unsigned(b)) == 0
			case isa.Bne:
				want = unsigned(a).Cmp(unsigned(b)) != 0
			case isa.Blt:
				want = signed(a).Cmp(signed(b)) < 0
			case isa.Bltu:
				want = unsigned(a).Cmp(unsigned(b)) < 0
			}
			checkTakes(t, op, a, b, want)
		}
		for _, op := range strangers {
			checkTakes(t, op, a, b, false)
		}
	}
	checkTakes(t, isa.Blt, minus, 0, true)
	checkTakes(t, isa.Bltu, minus, 0, false)
	checkTakes(t, isa.Blt, greatest, least, false)
	checkTakes(t, isa.Bltu, greatest, least, true)
	checkTakes(t, isa.Jal, 1, 1, false)
	checkTakes(t, isa.Jr, 1, 2, false)
}

func TestWidth(t *testing.T) {
	type moved struct {
		width  int
		stores bool
	}
	moves := map[int]moved{
		isa.Ld: {8, false}, isa.Lw: {4, false}, isa.Lb: {1, false},
		isa.St: {8, true}, isa.Sw: {4, true}, isa.Sb: {1, true},
	}
	check := func(op int, want moved) {
		if width, stores := Width(op); width != want.width || stores != want.stores {
			t.Errorf("Width(%d) is %d, %v, not %v", op, width, stores, want)
		}
	}
	for op := isa.Halt; op <= isa.Trap; op++ {
		check(op, moves[op])
	}
	for _, op := range strangers {
		check(op, moved{})
	}
}

// placed is Place, worked out in numbers of any length.
func placed(b uint64, imm int32, width int) (int, bool) {
	sum := unsigned(bits(new(big.Int).Add(unsigned(b), big.NewInt(int64(imm)))))
	w := big.NewInt(int64(width))
	if w.Sign() <= 0 || sum.Cmp(new(big.Int).Sub(big.NewInt(api.Space), w)) > 0 || new(big.Int).Mod(sum, w).Sign() != 0 {
		return 0, false
	}
	return int(sum.Int64()), true
}

func checkPlace(t *testing.T, b uint64, imm int32, width, want int, can bool) {
	t.Helper()
	if at, ok := Place(b, imm, width); at != want || ok != can {
		t.Fatalf("Place(%#x, %d, %d) is %d, %v, not %d, %v", b, imm, width, at, ok, want, can)
	}
}

func TestPlace(t *testing.T) {
	const space = 1 << 18
	widths := []int{math.MinInt, math.MinInt + 1, math.MinInt + space, math.MinInt32, -8, -4, -1, 0, 1, 2, 4, 8, space, space + 1, 1 << 19, math.MaxInt32, 1 << 32, 1 << 62, math.MaxInt - 1, math.MaxInt}
	imms := []int32{math.MinInt32, math.MinInt32 + 1, -space - 8, -space, -65, -9, -8, -7, -4, -2, -1, 0, 1, 2, 3, 4, 7, 8, 64, space - 8, space - 1, space, math.MaxInt32 - 1, math.MaxInt32}
	bases := append([]uint64{6, 8, 9, 64, space - 9, space - 8, space - 7, space - 5, space - 4, space - 3, space - 2, space - 1, space, space + 1, space + 8, 1<<31 - 8, minus - 7, minus - 8, minus - space, minus - space + 1, least + space, 1<<32 + 8}, edges...)
	for _, b := range bases {
		for _, imm := range imms {
			for _, width := range widths {
				want, can := placed(b, imm, width)
				checkPlace(t, b, imm, width, want, can)
			}
		}
	}
}

// The values of this table are worked out by hand.
func TestPlaceByHand(t *testing.T) {
	for _, c := range []struct {
		b     uint64
		imm   int32
		width int
		want  int
		can   bool
	}{
		{64, -4, 4, 60, true},
		{64, -4, 8, 0, false},
		{0, 0, 8, 0, true},
		{8, -8, 8, 0, true},
		{0, -8, 8, 0, false},
		{0, -1, 1, 0, false},
		{minus, 1, 1, 0, true},
		{minus - 7, 16, 8, 8, true},
		{1<<18 - 8, 0, 8, 1<<18 - 8, true},
		{1 << 18, -8, 8, 1<<18 - 8, true},
		{1<<18 - 4, 0, 8, 0, false},
		{1<<18 - 4, 0, 4, 1<<18 - 4, true},
		{1<<18 - 2, 0, 2, 1<<18 - 2, true},
		{1<<18 - 1, 0, 1, 1<<18 - 1, true},
		{1 << 18, 0, 1, 0, false},
		{1 << 18, 0, 8, 0, false},
		{1, 0, 1, 1, true},
		{1, 0, 2, 0, false},
		{2, 0, 4, 0, false},
		{4, 0, 8, 0, false},
		{1 << 32, 0, 1, 0, false},
		{1 << 31, math.MinInt32, 8, 0, true},
		{0, math.MaxInt32, 1, 0, false},
		{8, 0, 0, 0, false},
		{8, 0, -8, 0, false},
		{0, 0, math.MinInt, 0, false},
		{0, 0, math.MaxInt, 0, false},
	} {
		checkPlace(t, c.b, c.imm, c.width, c.want, c.can)
	}
}
