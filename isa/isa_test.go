package isa

import (
	"bytes"
	"math"
	"math/big"
	"regexp"
	"slices"
	"strconv"
	"strings"
	"testing"

	"glacis/api"
)

// chapter is the chapter's list of operations, numbered from 1.
const chapter = "halt li hi add sub mul div rem and or xor shl shr sar slt sltu eq addi ld lw lb st sw sb beq bne blt bltu jal jr fadd fsub fmul fdiv fmin fmax flt feq fsqrt ftoi itof fclass trap"

var (
	imms  = []int32{math.MinInt32, math.MinInt32 + 1, -65537, -256, -10, -4, -1, 0, 1, 9, 10, 255, 256, 0x01020304, math.MaxInt32 - 1, math.MaxInt32}
	edges = []int{math.MinInt, math.MinInt32, -256, -1, 16, 17, 255, 256, 271, math.MaxInt32, math.MaxInt}
)

// samples are valid instructions: every operation, every register in each place, the edges of Imm.
func samples() []api.Ins {
	var all []api.Ins
	for op := 1; op <= 43; op++ {
		for i, imm := range imms {
			all = append(all, api.Ins{Op: op, A: i, B: 15 - i, C: (i + op) % 16, Imm: imm})
		}
		all = append(all, api.Ins{Op: op}, api.Ins{Op: op, A: 15, B: 15, C: 15, Imm: -1})
	}
	for n := range 16 * 16 * 16 {
		all = append(all, api.Ins{Op: 18, A: n % 16, B: n / 16 % 16, C: n / 256, Imm: -4})
	}
	return all
}

// wrongs are instructions that are not valid, each because of one part.
func wrongs() []api.Ins {
	var all []api.Ins
	for _, op := range []int{math.MinInt, math.MinInt32, -255, -1, 0, 44, 45, 255, 256, 257, 299, 1 << 32, 1<<32 + 1, math.MaxInt} {
		all = append(all, api.Ins{Op: op}, api.Ins{Op: op, A: 1, B: 2, C: 3, Imm: 7})
	}
	for op := 1; op <= 43; op++ {
		for _, n := range edges {
			all = append(all, api.Ins{Op: op, A: n, Imm: 1}, api.Ins{Op: op, B: n, Imm: 1}, api.Ins{Op: op, C: n, Imm: 1})
		}
	}
	return all
}

// lowest is the lowest bytes of a number, worked out without the package.
func lowest(x int, n int) []byte {
	low := new(big.Int).Mod(big.NewInt(int64(x)), new(big.Int).Lsh(big.NewInt(1), uint(8*n)))
	return low.FillBytes(make([]byte, n))
}

// encoded is the chapter's encoding, told is the chapter's text; both worked out without the package.
func encoded(x api.Ins) []byte {
	return slices.Concat(lowest(x.Op, 1), lowest(x.A, 1), lowest(x.B, 1), lowest(x.C, 1), lowest(int(x.Imm), 4))
}

func told(x api.Ins) string {
	words := []string{strings.Fields(chapter)[x.Op-1]}
	for _, n := range []int{x.A, x.B, x.C} {
		words = append(words, "r"+big.NewInt(int64(n)).String())
	}
	return strings.Join(append(words, big.NewInt(int64(x.Imm)).String()), " ")
}

func TestNumbers(t *testing.T) {
	ops := []int{
		Halt, Li, Hi, Add, Sub, Mul, Div, Rem, And, Or, Xor, Shl, Shr, Sar, Slt, Sltu, Eq, Addi,
		Ld, Lw, Lb, St, Sw, Sb, Beq, Bne, Blt, Bltu, Jal, Jr,
		Fadd, Fsub, Fmul, Fdiv, Fmin, Fmax, Flt, Feq, Fsqrt, Ftoi, Itof, Fclass, Trap,
	}
	for i, op := range ops {
		if op != i+1 {
			t.Errorf("operation %d has the number %d", i+1, op)
		}
	}
	if len(ops) != 43 || len(strings.Fields(chapter)) != 43 || Size != 8 {
		t.Errorf("%d operations of %d bytes", len(ops), Size)
	}
}

func TestRight(t *testing.T) {
	for _, x := range samples() {
		if !Right(x) {
			t.Fatalf("%v is not valid", x)
		}
	}
	for _, x := range wrongs() {
		if Right(x) {
			t.Errorf("%v is valid", x)
		}
	}
}

func TestEncode(t *testing.T) {
	for _, x := range slices.Concat(samples(), wrongs()) {
		if got := Encode(x); !bytes.Equal(got, encoded(x)) {
			t.Fatalf("Encode(%v) is %v, not %v", x, got, encoded(x))
		}
	}
	for _, c := range []struct {
		x    api.Ins
		want []byte
	}{
		{api.Ins{Op: Addi, A: 1, B: 2, Imm: -4}, []byte{18, 1, 2, 0, 255, 255, 255, 252}},
		{api.Ins{Op: Trap, A: 15, B: 14, C: 13, Imm: 0x01020304}, []byte{43, 15, 14, 13, 1, 2, 3, 4}},
		{api.Ins{Op: Halt, C: 15, Imm: math.MinInt32}, []byte{1, 0, 0, 15, 128, 0, 0, 0}},
		{api.Ins{Op: Li, Imm: math.MaxInt32}, []byte{2, 0, 0, 0, 127, 255, 255, 255}},
		{api.Ins{}, []byte{0, 0, 0, 0, 0, 0, 0, 0}},
		{api.Ins{Op: 0x12345, A: -1, B: 256, C: 0x7fed, Imm: -1}, []byte{0x45, 255, 0, 0xed, 255, 255, 255, 255}},
	} {
		if got := Encode(c.x); !bytes.Equal(got, c.want) {
			t.Errorf("Encode(%v) is %v, not %v", c.x, got, c.want)
		}
	}
}

// checkBytes holds Decode of any bytes against what the chapter says of them.
func checkBytes(t *testing.T, b []byte) {
	t.Helper()
	given := slices.Clone(b)
	x, ok := Decode(b)
	if !bytes.Equal(b, given) {
		t.Fatalf("Decode changed %v to %v", given, b)
	}
	want := len(b) == 8 && b[0] >= 1 && b[0] <= 43 && b[1] <= 15 && b[2] <= 15 && b[3] <= 15
	switch {
	case ok != want:
		t.Fatalf("Decode(%v) is %v", b, ok)
	case !ok && x != api.Ins{}:
		t.Fatalf("Decode(%v) is false with %v", b, x)
	case ok && !bytes.Equal(encoded(x), b):
		t.Fatalf("Decode(%v) is %v", b, x)
	case ok && (x.Op > 43 || x.A > 15 || x.B > 15 || x.C > 15 || min(x.A, x.B, x.C, x.Op-1) < 0):
		t.Fatalf("Decode(%v) is %v, which is not valid", b, x)
	}
}

func TestDecode(t *testing.T) {
	for _, x := range samples() {
		b := encoded(x)
		if got, ok := Decode(b); !ok || got != x {
			t.Fatalf("Decode(%v) is %v, %v", b, got, ok)
		}
		if got, ok := Decode(Encode(x)); !ok || got != x {
			t.Fatalf("Decode does not undo Encode(%v)", x)
		}
		for n := range b {
			checkBytes(t, b[:n])
		}
		for _, c := range []byte{0, 1, 255} {
			checkBytes(t, append(slices.Clone(b), c))
			checkBytes(t, append([]byte{c}, b...))
		}
		checkBytes(t, slices.Concat(b, b))
	}
	checkBytes(t, nil)
	checkBytes(t, make([]byte, 1<<16))
}

func TestDecodeChanged(t *testing.T) {
	for op := 0; op <= 255; op++ {
		for i := range Size {
			for c := range 256 {
				b := []byte{byte(op), 3, 15, 0, 128, 7, 0, 255}
				b[i] = byte(c)
				checkBytes(t, b)
			}
		}
	}
}

func TestDecodeRegisters(t *testing.T) {
	some := []byte{0, 1, 14, 15, 16, 17, 31, 127, 128, 240, 255}
	for _, op := range []byte{0, 1, 2, 42, 43, 44, 128, 255} {
		for _, a := range some {
			for _, b := range some {
				for _, c := range some {
					checkBytes(t, []byte{op, a, b, c, 0, 0, 0, 1})
				}
			}
		}
	}
}

func TestText(t *testing.T) {
	for _, x := range samples() {
		if got := Text(x); got != told(x) {
			t.Fatalf("Text(%v) is %q, not %q", x, got, told(x))
		}
	}
	for _, x := range wrongs() {
		if got := Text(x); got != "?" {
			t.Fatalf("Text(%v) is %q", x, got)
		}
	}
	for _, c := range []struct {
		x    api.Ins
		want string
	}{
		{api.Ins{Op: Addi, A: 1, B: 2, Imm: -4}, "addi r1 r2 r0 -4"},
		{api.Ins{Op: Halt}, "halt r0 r0 r0 0"},
		{api.Ins{Op: Fclass, A: 15, B: 10, C: 9, Imm: math.MinInt32}, "fclass r15 r10 r9 -2147483648"},
		{api.Ins{Op: Trap, C: 15, Imm: math.MaxInt32}, "trap r0 r0 r15 2147483647"},
		{api.Ins{}, "?"},
		{api.Ins{Op: 44}, "?"},
	} {
		if got := Text(c.x); got != c.want {
			t.Errorf("Text(%v) is %q, not %q", c.x, got, c.want)
		}
	}
}

// shape is a text's grammar, but for the greatest and the least Imm.
var shape = regexp.MustCompile(`\A(` + strings.ReplaceAll(chapter, " ", "|") + `) r([0-9]|1[0-5]) r([0-9]|1[0-5]) r([0-9]|1[0-5]) (0|-?[1-9][0-9]*)\z`)

// checkText holds Parse of any text against what the chapter says of it.
func checkText(t *testing.T, s string) {
	t.Helper()
	x, ok := Parse(s)
	want := false
	if m := shape.FindStringSubmatch(s); m != nil {
		imm, _ := new(big.Int).SetString(m[5], 10)
		want = imm.IsInt64() && imm.Int64() >= -(1<<31) && imm.Int64() < 1<<31
	}
	switch {
	case ok != want:
		t.Fatalf("Parse(%q) is %v", s, ok)
	case !ok && x != api.Ins{}:
		t.Fatalf("Parse(%q) is false with %v", s, x)
	case ok && told(x) != s:
		t.Fatalf("Parse(%q) is %v", s, x)
	}
}

func TestParse(t *testing.T) {
	for _, x := range samples() {
		if got, ok := Parse(told(x)); !ok || got != x {
			t.Fatalf("Parse(%q) is %v, %v", told(x), got, ok)
		}
		if got, ok := Parse(Text(x)); !ok || got != x {
			t.Fatalf("Parse does not undo Text(%v)", x)
		}
	}
	for _, x := range wrongs() {
		if got, ok := Parse(Text(x)); ok || got != (api.Ins{}) {
			t.Fatalf("Parse(%q) is %v, %v", Text(x), got, ok)
		}
	}
}

func TestParseWrong(t *testing.T) {
	for _, s := range []string{
		"", "?", " ", "    ", "\x00", "add", "add ", "add r1", "add r1 r2", "add r1 r2 r3", "add r1 r2 r3 ",
		"add r1 r2 r3 4 ", " add r1 r2 r3 4", "add r1 r2 r3 4 5", "add r1 r2 r3 r4 5", "add r1 r2 r3 4\n",
		"add  r1 r2 r3 4", "add r1  r2 r3 4", "add r1 r2  r3 4", "add r1 r2 r3  4",
		"add\tr1 r2 r3 4", "add r1 r2 r3\t4", "add r1 r2\u00a0r3 4", "add,r1,r2,r3,4", "add r1, r2, r3, 4",
		"r1 r2 r3 4", " r1 r2 r3 4", "? r1 r2 r3 4", "Add r1 r2 r3 4", "ADD r1 r2 r3 4", "ad r1 r2 r3 4", "addd r1 r2 r3 4",
		"4 r1 r2 r3 4", "add add r2 r3 4", "last r0 r0 r0 0", "nop r0 r0 r0 0",
		"add 1 r2 r3 4", "add r1 2 r3 4", "add r1 r2 3 4", "add r1 r2 r3 r4", "add R1 r2 r3 4", "add rr1 r2 r3 4",
		"add r r2 r3 4", "add r1 r r3 4", "add r1 r2 r 4", "add r1 r2 r3 r",
		"add r16 r2 r3 4", "add r1 r16 r3 4", "add r1 r2 r16 4", "add r99 r2 r3 4", "add r256 r2 r3 4", "add r4294967297 r2 r3 4",
		"add r01 r2 r3 4", "add r1 r02 r3 4", "add r1 r2 r03 4", "add r00 r2 r3 4", "add r015 r2 r3 4",
		"add r+1 r2 r3 4", "add r-1 r2 r3 4", "add r-0 r2 r3 4", "add r1 r+2 r3 4", "add r1 r2 r-3 4", "add +r1 r2 r3 4", "add -r1 r2 r3 4",
		"add r1 r2 r3 +4", "add r1 r2 r3 04", "add r1 r2 r3 -04", "add r1 r2 r3 00", "add r1 r2 r3 -0", "add r1 r2 r3 +0",
		"add r1 r2 r3 --4", "add r1 r2 r3 -", "add r1 r2 r3 - 4", "add r1 r2 r3 4-", "add r1 r2 r3 0x4", "add r1 r2 r3 4.0", "add r1 r2 r3 1e1",
		"add r1 r2 r3 1_0", "add r1 r2 r3 a", "add r1 r2 r3 \u0664", "add r\u0661 r2 r3 4",
		"add r1 r2 r3 2147483648", "add r1 r2 r3 -2147483649", "add r1 r2 r3 4294967295", "add r1 r2 r3 4294967300",
		"add r1 r2 r3 9223372036854775808", "add r1 r2 r3 18446744073709551620", "add r1 r2 r3 -18446744073709551612",
		"add r1 r2 r3 " + strings.Repeat("9", 1000), "add r1 r2 r3 " + strings.Repeat("0", 1000) + "4",
		strings.Repeat("add r1 r2 r3 4 ", 1000), strings.Repeat(" ", 1000), strings.Repeat("r", 1000), "add " + strings.Repeat("r1 ", 1000),
	} {
		if x, ok := Parse(s); ok || x != (api.Ins{}) {
			t.Errorf("Parse(%q) is %v, %v", s, x, ok)
		}
		checkText(t, s)
	}
}

// TestParseChanged is P4.1's 'accept nothing else': of texts that are one byte away from an instruction's, only those that are another's are read.
func TestParseChanged(t *testing.T) {
	for _, s := range []string{
		"halt r0 r0 r0 0", "or r1 r15 r9 10", "st r10 r11 r14 -1", "flt r2 r3 r4 -2147483648", "fmin r5 r6 r7 2147483647", "trap r8 r12 r13 -305419896",
	} {
		checkText(t, s)
		for i := 0; i <= len(s); i++ {
			for c := range 256 {
				checkText(t, s[:i]+string([]byte{byte(c)})+s[i:])
				if i < len(s) {
					checkText(t, s[:i]+string([]byte{byte(c)})+s[i+1:])
				}
			}
			checkText(t, s[:i])
			checkText(t, s[i:])
			if i < len(s) {
				checkText(t, s[:i]+s[i+1:])
			}
		}
	}
}

// TestParseMixed puts texts together of words that are right in some places only.
func TestParseMixed(t *testing.T) {
	words := []string{"", "jr", "trap", "r0", "r15", "r16", "r01", "0", "-1", "15", "-0", "2147483647", "2147483648"}
	for n := range len(words) * len(words) * len(words) * len(words) * len(words) {
		text := make([]string, 5)
		for i := range text {
			text[i] = words[n%len(words)]
			n /= len(words)
		}
		checkText(t, strings.Join(text, " "))
	}
}

func TestParseNumbers(t *testing.T) {
	for n := -20; n <= 300; n++ {
		word := strconv.Itoa(n)
		checkText(t, "li r"+word+" r0 r0 0")
		checkText(t, "li r0 r"+word+" r0 0")
		checkText(t, "li r0 r0 r"+word+" 0")
		checkText(t, "li r0 r0 r0 "+word)
		for _, far := range []int64{1 << 31, -(1 << 31), 1 << 32, -(1 << 32), 1 << 62} {
			checkText(t, "li r0 r0 r0 "+strconv.FormatInt(far+int64(n), 10))
		}
	}
}

// TestNewMemory holds that answers share nothing with each other or with what was given.
func TestNewMemory(t *testing.T) {
	x := api.Ins{Op: Jal, A: 4, Imm: -7}
	one, two := Encode(x), Encode(x)
	for i := range one {
		one[i] = 99
	}
	if !bytes.Equal(two, encoded(x)) || !bytes.Equal(Encode(x), encoded(x)) {
		t.Error("two encodings share memory")
	}
	got, _ := Decode(two)
	clear(two)
	if got != x {
		t.Errorf("%v shares memory with the bytes", got)
	}
}
