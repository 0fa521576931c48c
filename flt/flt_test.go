package flt

import (
	"math"
	"math/big"
	"testing"
)

const (
	minus    = uint64(1) << 63
	inf      = uint64(0x7FF0000000000000)
	one      = uint64(0x3FF0000000000000)
	two      = uint64(0x4000000000000000)
	three    = uint64(0x4008000000000000)
	half     = uint64(0x3FE0000000000000)
	least    = uint64(1)                  // 2^-1074
	small    = uint64(0x000FFFFFFFFFFFFF) // the greatest small one
	normal   = uint64(0x0010000000000000) // 2^-1022
	greatest = uint64(0x7FEFFFFFFFFFFFFF)
	two53    = uint64(0x4340000000000000)
	two63    = uint64(0x43E0000000000000)
)

// nones are bits that are not a number: quiet and signalling ones, of both signs.
var nones = []uint64{
	NaN, NaN | minus, inf + 1, (inf + 1) | minus, 0x7FF4000000000000, 0x7FF8000000000001,
	0x7FFFFFFFFFFFFFFF, 0xFFFFFFFFFFFFFFFF, 0xFFF0000012345678,
}

// numbers are those that the chapter's edges are made of, and others of all sizes.
func numbers() []uint64 {
	positive := []uint64{
		0, least, 2, 3, small - 1, small, normal, normal + 1, 0x001FFFFFFFFFFFFF, 0x0020000000000000,
		half - 1, half, half + 1, one - 1, one, one + 1, two, three, 0x4014000000000000, 0x3FD5555555555555,
		0x3C90000000000000, 0x3CA0000000000000, 0x3CA0000000000001, 0x3CB0000000000000,
		two53 - 1, two53, two53 + 1, two63 - 1, two63, two63 + 1,
		0x1FF0000000000000, 0x1FF8000000000000, 0x1E60000000000000, 0x5FEFFFFFFFFFFFFF, 0x5FF0000000000000,
		0x7FDFFFFFFFFFFFFF, 0x7FE0000000000000, greatest - 1, greatest, inf,
	}
	random := uint64(1)
	for len(positive) < 120 {
		random = random*6364136223846793005 + 1442695040888963407
		x := (random ^ random>>29) &^ minus
		if x <= inf {
			positive = append(positive, x)
		}
		// Neighbours in size meet in sums whose rounding matters.
		near := one + (random>>4&0x7FF)<<44 + random>>11
		positive = append(positive, near&^minus%inf)
	}
	all := positive
	for _, x := range positive {
		all = append(all, x|minus)
	}
	return all
}

func exact(a uint64) *big.Rat { return new(big.Rat).SetFloat64(math.Float64frombits(a)) }

// rounded gives the number nearest to an exact one; sign is that of a result that is 0.
func rounded(x *big.Rat, sign uint64) uint64 {
	if x.Sign() == 0 {
		return sign
	}
	nearest, _ := new(big.Rat).Abs(x).Float64()
	if x.Sign() < 0 {
		return math.Float64bits(nearest) | minus
	}
	return math.Float64bits(nearest)
}

func isInf(a uint64) bool  { return a&^minus == inf }
func isZero(a uint64) bool { return a&^minus == 0 }

func wantAdd(a, b uint64) uint64 {
	switch {
	case isInf(a) && isInf(b) && a != b:
		return NaN
	case isInf(a):
		return a
	case isInf(b):
		return b
	}
	sign := uint64(0)
	if a == minus && b == minus {
		sign = minus
	}
	return rounded(new(big.Rat).Add(exact(a), exact(b)), sign)
}

func wantMul(a, b uint64) uint64 {
	sign := (a ^ b) & minus
	switch {
	case isInf(a) && isZero(b), isZero(a) && isInf(b):
		return NaN
	case isInf(a), isInf(b):
		return inf | sign
	}
	return rounded(new(big.Rat).Mul(exact(a), exact(b)), sign)
}

func wantDiv(a, b uint64) uint64 {
	sign := (a ^ b) & minus
	switch {
	case isInf(a) && isInf(b), isZero(a) && isZero(b):
		return NaN
	case isInf(a), isZero(b):
		return inf | sign
	case isInf(b):
		return sign
	}
	return rounded(new(big.Rat).Quo(exact(a), exact(b)), sign)
}

func TestArithmeticIsExactThenRounded(t *testing.T) {
	for _, a := range numbers() {
		for _, b := range numbers() {
			for _, x := range []struct {
				name      string
				got, want uint64
			}{
				{"add", Add(a, b), wantAdd(a, b)},
				{"sub", Sub(a, b), wantAdd(a, b^minus)},
				{"mul", Mul(a, b), wantMul(a, b)},
				{"div", Div(a, b), wantDiv(a, b)},
			} {
				if x.got != x.want {
					t.Fatalf("%s %x %x: %x, not %x", x.name, a, b, x.got, x.want)
				}
			}
		}
	}
}

func TestArithmeticEdges(t *testing.T) {
	for i, x := range []struct{ got, want uint64 }{
		{Add(one, two), three}, {Sub(three, two), one}, {Mul(two, half), one}, {Div(one, two), half},
		// Zeros.
		{Add(0, 0), 0}, {Add(0, minus), 0}, {Add(minus, 0), 0}, {Add(minus, minus), minus},
		{Add(one, one|minus), 0}, {Add(one|minus, one), 0},
		{Sub(0, 0), 0}, {Sub(0, minus), 0}, {Sub(minus, 0), minus}, {Sub(minus, minus), 0}, {Sub(one|minus, one|minus), 0},
		{Mul(0, one|minus), minus}, {Mul(minus, one|minus), 0}, {Div(0, one|minus), minus}, {Div(minus, one|minus), 0},
		// Infinities.
		{Add(inf, inf), inf}, {Add(inf, inf|minus), NaN}, {Sub(inf, inf), NaN}, {Sub(inf|minus, inf|minus), NaN}, {Sub(inf, inf|minus), inf},
		{Mul(inf, 0), NaN}, {Mul(minus, inf), NaN}, {Mul(inf, one|minus), inf | minus},
		{Div(0, 0), NaN}, {Div(minus, 0), NaN}, {Div(inf, inf|minus), NaN},
		{Div(one, 0), inf}, {Div(one, minus), inf | minus}, {Div(inf, minus), inf | minus}, {Div(one|minus, inf), minus},
		// The middle between two numbers goes to the even one.
		{Add(two53, one), two53}, {Add(two53+1, one), two53 + 2}, {Sub(two53|minus, one), two53 | minus},
		{Add(two53, one+1), two53 + 1},
		{Mul(least, half), 0}, {Mul(3, half), 2}, {Mul(least|minus, half), minus}, {Div(least, two), 0}, {Div(3, two), 2},
		{Mul(least, half+1), least},
		// The smallest numbers, and beyond the greatest.
		{Add(least, least), 2}, {Sub(normal, least), small}, {Add(small, least), normal}, {Mul(least, least), 0}, {Mul(least, least|minus), minus},
		{Add(greatest, greatest), inf}, {Mul(greatest|minus, two), inf | minus},
		{Add(greatest, 0x7C90000000000000), inf}, {Add(greatest, 0x7C8FFFFFFFFFFFFF), greatest}, {Div(greatest, half), inf},
		// Roots.
		{Sqrt(0), 0}, {Sqrt(minus), minus}, {Sqrt(0x4022000000000000), three}, {Sqrt(two), 0x3FF6A09E667F3BCD}, {Sqrt(inf), inf},
		{Sqrt(inf | minus), NaN}, {Sqrt(one | minus), NaN}, {Sqrt(least | minus), NaN}, {Sqrt(least), 0x1E60000000000000},
	} {
		if x.got != x.want {
			t.Errorf("%d: %x, not %x", i, x.got, x.want)
		}
	}
}

// A root is nearest if the number lies between the squares of the middles beside it; no root lies in a middle.
func TestSqrtIsNearest(t *testing.T) {
	for _, a := range numbers() {
		if isZero(a) || isInf(a) {
			continue
		}
		got := Sqrt(a)
		if a&minus != 0 {
			if got != NaN {
				t.Fatalf("%x: %x", a, got)
			}
			continue
		}
		below, above := middle(got-1, got), middle(got, got+1)
		if below.Mul(below, below).Cmp(exact(a)) >= 0 || above.Mul(above, above).Cmp(exact(a)) <= 0 {
			t.Fatalf("%x: %x", a, got)
		}
	}
}

func middle(a, b uint64) *big.Rat {
	sum := new(big.Rat).Add(exact(a), exact(b))
	return sum.Mul(sum, big.NewRat(1, 2))
}

func TestNotANumber(t *testing.T) {
	for _, none := range nones {
		for _, x := range append(numbers(), nones...) {
			for i, got := range []uint64{
				Add(none, x), Add(x, none), Sub(none, x), Sub(x, none), Mul(none, x), Mul(x, none),
				Div(none, x), Div(x, none), Min(none, x), Min(x, none), Max(none, x), Max(x, none), Sqrt(none),
			} {
				if got != NaN {
					t.Fatalf("%d: %x %x: %x", i, none, x, got)
				}
			}
			if Less(none, x) || Less(x, none) || Equal(none, x) || Equal(x, none) {
				t.Fatalf("%x %x", none, x)
			}
		}
	}
}

func TestSignOfAnyBits(t *testing.T) {
	for _, a := range append(numbers(), nones...) {
		if Neg(a) != a^minus || Neg(Neg(a)) != a {
			t.Fatalf("%x: %x", a, Neg(a))
		}
		if Abs(a) != a&0x7FFFFFFFFFFFFFFF || Abs(a|minus) != Abs(a) {
			t.Fatalf("%x: %x", a, Abs(a))
		}
	}
}

// rank orders all numbers, -0 right below 0.
func rank(a uint64) int64 {
	if a&minus != 0 {
		return -int64(a&^minus) - 1
	}
	return int64(a)
}

func TestOrder(t *testing.T) {
	for _, a := range numbers() {
		for _, b := range numbers() {
			lesser, greater := a, b
			if rank(b) < rank(a) {
				lesser, greater = b, a
			}
			if Min(a, b) != lesser || Max(a, b) != greater {
				t.Fatalf("%x %x: %x %x", a, b, Min(a, b), Max(a, b))
			}
			same := a == b || isZero(a) && isZero(b)
			if Equal(a, b) != same || Less(a, b) != (!same && rank(a) < rank(b)) {
				t.Fatalf("%x %x: %v %v", a, b, Equal(a, b), Less(a, b))
			}
		}
	}
}

func TestFromInt(t *testing.T) {
	for _, x := range []struct {
		n    int64
		want uint64
	}{
		{0, 0}, {1, one}, {-1, one | minus}, {3, three},
		{1<<53 - 1, two53 - 1}, {1 << 53, two53}, {1<<53 + 1, two53}, {1<<53 + 2, two53 + 1}, {1<<53 + 3, two53 + 2},
		{-1<<53 - 1, two53 | minus}, {-1<<53 - 3, (two53 + 2) | minus},
		{math.MaxInt64, two63}, {math.MinInt64, two63 | minus}, {math.MaxInt64 - 511, two63}, {math.MaxInt64 - 512, two63 - 1},
		{math.MaxInt64 - 1023, two63 - 1}, {math.MinInt64 + 512, two63 | minus}, {math.MinInt64 + 513, (two63 - 1) | minus},
	} {
		if got := FromInt(x.n); got != x.want {
			t.Errorf("%d: %x, not %x", x.n, got, x.want)
		}
	}
	n := int64(1)
	for range 10000 {
		n = n*6364136223846793005 + 1442695040888963407
		for shift := range 64 {
			m := n >> shift
			if want := rounded(new(big.Rat).SetInt64(m), 0); FromInt(m) != want {
				t.Fatalf("%d: %x, not %x", m, FromInt(m), want)
			}
		}
	}
}

func TestToInt(t *testing.T) {
	for _, x := range []struct {
		a    uint64
		want int64
	}{
		{0, 0}, {minus, 0}, {least, 0}, {least | minus, 0}, {one - 1, 0}, {(one - 1) | minus, 0},
		{one, 1}, {one | minus, -1}, {two - 1, 1}, {(two - 1) | minus, -1}, {three, 3},
		{two53 + 1, 1<<53 + 2}, {two63 - 1, math.MaxInt64 - 1023}, {two63, math.MaxInt64}, {two63 + 1, math.MaxInt64},
		{(two63 - 1) | minus, math.MinInt64 + 1024}, {two63 | minus, math.MinInt64}, {(two63 + 1) | minus, math.MinInt64},
		{greatest, math.MaxInt64}, {greatest | minus, math.MinInt64}, {inf, math.MaxInt64}, {inf | minus, math.MinInt64},
	} {
		if got := ToInt(x.a); got != x.want {
			t.Errorf("%x: %d, not %d", x.a, got, x.want)
		}
	}
	for _, none := range nones {
		if got := ToInt(none); got != 0 {
			t.Errorf("%x: %d", none, got)
		}
	}
	for _, a := range numbers() {
		if want := cut(a); ToInt(a) != want {
			t.Fatalf("%x: %d, not %d", a, ToInt(a), want)
		}
	}
}

// cut drops the fraction of a number exactly, and stays within int64.
func cut(a uint64) int64 {
	whole := new(big.Int)
	if isInf(a) {
		whole.Lsh(big.NewInt(1-2*int64(a>>63)), 2000)
	} else {
		x := exact(a)
		whole.Quo(x.Num(), x.Denom())
	}
	switch {
	case whole.IsInt64():
		return whole.Int64()
	case whole.Sign() > 0:
		return math.MaxInt64
	}
	return math.MinInt64
}

func TestClass(t *testing.T) {
	for _, x := range []struct {
		a    uint64
		want int
	}{
		{0, Zero}, {least, Small}, {small, Small}, {normal, Normal}, {one, Normal}, {greatest, Normal}, {inf, Infinite},
	} {
		if Class(x.a) != x.want || Class(x.a|minus) != x.want {
			t.Errorf("%x: %d %d, not %d", x.a, Class(x.a), Class(x.a|minus), x.want)
		}
	}
	for _, none := range nones {
		if Class(none) != None {
			t.Errorf("%x: %d", none, Class(none))
		}
	}
}

func TestConstants(t *testing.T) {
	if NaN != 0x7FF8000000000000 || Zero != 0 || Small != 1 || Normal != 2 || Infinite != 3 || None != 4 {
		t.Fatal()
	}
}
