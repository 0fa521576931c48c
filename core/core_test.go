package core

import (
	"math"
	"math/big"
	"slices"
	"testing"

	"glacis/alu"
	"glacis/api"
	"glacis/isa"
)

const (
	least    = uint64(1) << 63
	greatest = least - 1
	minus    = ^uint64(0) // -1
	space    = 1 << 18
	sample   = 0xF1E2D3C4B5A69788 // a number whose bytes all differ, each with its highest bit
)

// An ask is one call that a memory gets.
type ask struct {
	how       string
	va, width int
	x         uint64
}

// A spy is a memory that answers as it was told, and notes what it is asked. Beside a refusal it answers numbers, too, which nobody may use.
type spy struct {
	code, data uint64
	gives      bool // the instruction
	serves     bool // loads and stores
	asks       []ask
}

func (s *spy) Load(va, width int) (uint64, bool) {
	first := len(s.asks) == 0
	s.asks = append(s.asks, ask{"load", va, width, 0})
	if first {
		return s.code, s.gives
	}
	return cut(s.data, width), s.serves
}

func (s *spy) Store(va, width int, x uint64) bool {
	s.asks = append(s.asks, ask{"store", va, width, x})
	return s.serves
}

func (s *spy) fetch(va int) { s.asks = append(s.asks, ask{"fetch", va, 8, 0}) }

// cut gives a number's lowest bytes.
func cut(n uint64, width int) uint64 {
	if width == 8 {
		return n
	}
	return n % (1 << (8 * width))
}

// These have a Fetch beside a spy's Load: in a form that a memory may have, or in others.
type (
	numberSpy  struct{ *spy }
	bytesSpy   struct{ *spy }
	bareSpy    struct{ *spy }
	strangeSpy struct{ *spy }
	otherSpy   struct{ *spy }
)

func (s numberSpy) Fetch(va int) (uint64, bool) {
	s.fetch(va)
	return s.code, s.gives
}

func (s bytesSpy) Fetch(va int) ([]byte, bool) {
	s.fetch(va)
	return eight(s.code), s.gives
}

func (s bareSpy) Fetch(va int) []byte {
	s.fetch(va)
	if !s.gives {
		return nil
	}
	return eight(s.code)
}

func (s strangeSpy) Fetch(string) bool {
	s.fetch(0)
	return true
}

func (s otherSpy) Fetches(va int) (uint64, bool) {
	s.fetch(va)
	return 0, false
}

func eight(n uint64) []byte {
	return new(big.Int).SetUint64(n).FillBytes(make([]byte, 8))
}

// code is an instruction's bytes as a number, put together without the package isa; op, a, b and c are bytes.
func code(op, a, b, c int, imm int32) uint64 {
	return uint64(op)<<56 | uint64(a)<<48 | uint64(b)<<40 | uint64(c)<<32 | uint64(uint32(imm))
}

// sum is modulo 2^64, of numbers of any length.
func sum(a uint64, n int64) uint64 {
	x := new(big.Int).SetUint64(a)
	x.Add(x, big.NewInt(n))
	x.Mod(x, new(big.Int).Lsh(big.NewInt(1), 64))
	return x.Uint64()
}

// widths are the bytes that the loads and stores move.
var widths = map[int]int{isa.Ld: 8, isa.Lw: 4, isa.Lb: 1, isa.St: 8, isa.Sw: 4, isa.Sb: 1}

// taken are the branches.
var taken = map[int]func(a, b uint64) bool{
	isa.Beq:  func(a, b uint64) bool { return a == b },
	isa.Bne:  func(a, b uint64) bool { return a != b },
	isa.Blt:  func(a, b uint64) bool { return a^least < b^least },
	isa.Bltu: func(a, b uint64) bool { return a < b },
}

// model is what the chapter says of a step: the core behind it, how it ended, and what the memory was asked.
func model(c Core, s *spy, how string) (Core, int, []ask) {
	if c.PC >= space || c.PC%8 != 0 {
		return c, 6, nil
	}
	asks := []ask{{how, int(c.PC), 8, 0}}
	if !s.gives {
		return c, 3, asks
	}
	e := eight(s.code)
	op, a, b, d, imm := int(e[0]), e[1], e[2], e[3], int64(int32(s.code&0xFFFFFFFF))
	if op < 1 || op > 43 || a > 15 || b > 15 || d > 15 {
		return c, 4, asks
	}
	n := c
	n.PC = c.PC + 8
	far := sum(c.PC, 8*imm)
	switch {
	case op == isa.Halt:
		return c, 2, asks
	case op == isa.Trap:
		return n, 1, asks
	case op == isa.Li:
		n.R[a] = sum(0, imm)
	case op == isa.Hi:
		n.R[a] = uint64(uint32(imm))*(1<<32) + c.R[a]%(1<<32)
	case op == isa.Addi:
		n.R[a] = sum(c.R[b], imm)
	case op == isa.Jal:
		n.R[a], n.PC = c.PC+8, far
	case op == isa.Jr:
		n.PC = c.R[a]
	case taken[op] != nil:
		if taken[op](c.R[a], c.R[b]) {
			n.PC = far
		}
	case widths[op] != 0:
		return modelMove(c, n, s, asks, op, int(a), sum(c.R[b], imm))
	default:
		x, ok := alu.Reckon(op, c.R[b], c.R[d])
		if !ok {
			return c, 5, asks
		}
		n.R[a] = x
	}
	return n, 0, asks
}

// modelMove is a load or a store at an address, of a core c that becomes n.
func modelMove(c, n Core, s *spy, asks []ask, op, a int, at uint64) (Core, int, []ask) {
	w := widths[op]
	if at > uint64(space-w) || at%uint64(w) != 0 {
		return c, 6, asks
	}
	if op == isa.Ld || op == isa.Lw || op == isa.Lb {
		asks = append(asks, ask{"load", int(at), w, 0})
		n.R[a] = cut(s.data, w)
	} else {
		asks = append(asks, ask{"store", int(at), w, cut(c.R[a], w)})
	}
	if !s.serves {
		return c, 3, asks
	}
	return n, 0, asks
}

// checkAs does one step with a memory, and holds it against the model.
func checkAs(t *testing.T, c *Core, m Memory, s *spy, how string) int {
	t.Helper()
	before := *c
	want, end, asks := model(before, s, how)
	s.asks = nil
	got := c.Step(m)
	if got != end || *c != want || !slices.Equal(s.asks, asks) {
		t.Fatalf("%T, code %#016x, from %#x:\ngot  %d %#x %v\nwant %d %#x %v", m, s.code, before, got, *c, s.asks, end, want, asks)
	}
	if got > 1 && *c != before {
		t.Fatalf("code %#016x, from %#x: end %d, and there is a change: %#x", s.code, before, got, *c)
	}
	return got
}

// check does a step with a memory of each form, from the same core; the core is afterwards as one of them left it.
func check(t *testing.T, c *Core, s spy) int {
	t.Helper()
	before := *c
	for _, m := range []Memory{numberSpy{&s}, bytesSpy{&s}, bareSpy{&s}} {
		*c = before
		checkAs(t, c, m, &s, "fetch")
	}
	for _, m := range []Memory{strangeSpy{&s}, otherSpy{&s}} {
		*c = before
		checkAs(t, c, m, &s, "load")
	}
	*c = before
	return checkAs(t, c, &s, &s, "load")
}

// served is a memory without refusals.
func served(code uint64) spy { return spy{code: code, data: sample, gives: true, serves: true} }

// fillings are what the registers may have: numbers that differ, the same ones, addresses, and edges.
func fillings() []Core {
	edges := []uint64{0, 1, minus, least, greatest, space - 8, space, minus - 7, 4, 8, 16, 3, least + 1, 1 << 32, 1<<32 - 1, 0x4009000000000000}
	var l [5]Core
	for i := range api.Regs {
		l[0].R[i] = sample ^ uint64(i)*0x0101010101010101
		l[1].R[i] = 0
		l[2].R[i] = uint64(64 + 8*i)
		l[3].R[i] = edges[i]
		l[4].R[i] = edges[15-i]
	}
	return l[:]
}

var numbers = []int32{math.MinInt32, math.MinInt32 + 1, -65, -64, -8, -4, -2, -1, 0, 1, 2, 4, 7, 8, 63, 64, space - 8, space - 1, space, math.MaxInt32 - 1, math.MaxInt32}

func TestEnds(t *testing.T) {
	if Ran != 0 || Trapped != 1 || Halted != 2 || Fault != 3 || Illegal != 4 || Divided != 5 || Crooked != 6 {
		t.Fatal("a step's ends have other numbers")
	}
}

// Every operation, with registers that are different, the same, the first and the last one, on memories that serve and that refuse.
func TestOperations(t *testing.T) {
	ends := map[int]int{}
	for _, start := range fillings() {
		for op := isa.Halt; op <= isa.Trap; op++ {
			for _, r := range [][3]int{{1, 2, 3}, {0, 15, 7}, {15, 0, 8}, {7, 8, 0}, {9, 10, 15}, {4, 4, 5}, {4, 5, 4}, {5, 4, 4}, {6, 6, 6}, {0, 0, 0}, {15, 15, 15}, {0, 0, 15}, {15, 0, 15}} {
				for i, imm := range numbers {
					for _, serves := range []bool{true, false} {
						c := start
						c.PC = []uint64{0, 8, 4096, space - 8}[(i+op)%4]
						s := served(code(op, r[0], r[1], r[2], imm))
						s.serves = serves
						ends[check(t, &c, s)]++
					}
				}
			}
		}
	}
	for end := range Crooked {
		if end != Illegal && ends[end] == 0 {
			t.Errorf("no step ended with %d", end)
		}
	}
}

// All ways to name three registers, for an operation of each kind.
func TestRegisters(t *testing.T) {
	start := fillings()[2]
	for _, op := range []int{isa.Li, isa.Hi, isa.Sub, isa.Addi, isa.Ld, isa.St, isa.Beq, isa.Bltu, isa.Jal, isa.Jr, isa.Fadd, isa.Itof, isa.Trap} {
		for i := range 16 * 16 * 16 {
			c := start
			check(t, &c, served(code(op, i/256, i/16%16, i%16, 8)))
		}
	}
}

// The address of the next instruction: what isn't one is crooked, whatever the memory has there, which isn't asked.
func TestNext(t *testing.T) {
	crooked := []uint64{1, 2, 3, 4, 5, 6, 7, 9, 12, 63, 65, space - 9, space - 7, space - 4, space - 1, space, space + 1, space + 8, 1 << 31, 1 << 32, 1<<32 + 8, greatest - 7, greatest, least, least + 8, minus - 15, minus - 7, minus - 1, minus}
	right := []uint64{0, 8, 16, 56, 64, 72, space/2 - 8, space / 2, space - 16, space - 8}
	for _, start := range fillings() {
		for _, op := range []int{0, isa.Li, isa.Halt, isa.Trap, isa.Div, isa.Jal, isa.Ld, isa.Sb, 255} {
			for _, gives := range []bool{true, false} {
				s := served(code(op, 1, 2, 3, 5))
				s.gives = gives
				for _, pc := range crooked {
					c := start
					c.PC = pc
					if end := check(t, &c, s); end != Crooked {
						t.Fatalf("next %#x: %d", pc, end)
					}
				}
				for _, pc := range right {
					c := start
					c.PC = pc
					if end := check(t, &c, s); !gives && end != Fault {
						t.Fatalf("next %#x: %d", pc, end)
					}
				}
			}
		}
	}
}

// Every byte as an operation and as each register: bytes that are no instruction.
func TestNoInstruction(t *testing.T) {
	for _, start := range fillings() {
		for x := range 256 {
			for place := range 4 {
				b := [4]int{isa.Addi, 1, 2, 3}
				b[place] = x
				c := start
				c.PC = 64
				end := check(t, &c, served(code(b[0], b[1], b[2], b[3], -1)))
				if bad := place == 0 && (x == 0 || x > 43) || place > 0 && x > 15; bad != (end == Illegal) {
					t.Fatalf("byte %d is %d: %d", place, x, end)
				}
			}
		}
	}
	for _, n := range []uint64{0, 1, 0x00FFFFFFFFFFFFFF, 0x2C00000000000000, 0x0110000000000000, 0x0100100000000000, 0x0100001000000000, minus} {
		c := Core{PC: 8}
		if end := check(t, &c, served(n)); end != Illegal {
			t.Fatalf("%#x: %d", n, end)
		}
	}
}

// These have a Fetch that gives any list of bytes.
type (
	listSpy struct {
		*spy
		b  []byte
		ok bool
	}
	bareListSpy struct {
		*spy
		b []byte
	}
)

func (s listSpy) Fetch(int) ([]byte, bool) { return s.b, s.ok }

func (s bareListSpy) Fetch(int) []byte { return s.b }

// Lists of bytes that are not eight, and those beside a false: no instruction was loaded.
func TestNotEightBytes(t *testing.T) {
	full := append(eight(code(isa.Li, 1, 0, 0, 5)), 0)
	for n := range 10 {
		s := served(code(isa.Li, 1, 0, 0, 5))
		want := Fault
		if n == 8 {
			want = Ran
		}
		var c Core
		if end := c.Step(listSpy{&s, full[:n], true}); end != want || (c == Core{}) != (want == Fault) {
			t.Fatal(n, end, c)
		}
		c = Core{}
		if end := c.Step(bareListSpy{&s, full[:n]}); end != want || (c == Core{}) != (want == Fault) {
			t.Fatal(n, end, c)
		}
		c = Core{}
		if end := c.Step(listSpy{&s, full[:n], false}); end != Fault || c != (Core{}) {
			t.Fatal(n, end, c)
		}
	}
}

func TestNoMemory(t *testing.T) {
	for _, start := range fillings() {
		for pc, want := range map[uint64]int{0: Fault, 8: Fault, space - 8: Fault, 4: Crooked, space: Crooked, minus: Crooked} {
			c := start
			c.PC = pc
			before := c
			if end := c.Step(nil); end != want || c != before {
				t.Fatal(pc, end, c)
			}
		}
	}
}

// Jumps and branches from both ends of the space, by all numbers of the list, with the registers' order each way.
func TestJumps(t *testing.T) {
	pairs := [][2]uint64{{0, 0}, {0, 1}, {1, 0}, {minus, minus}, {minus, 0}, {0, minus}, {least, greatest}, {greatest, least}, {least, least}, {minus, 1}, {sample, sample}}
	for op := isa.Beq; op <= isa.Jr; op++ {
		for _, pc := range []uint64{0, 8, 64, 4096, space - 8} {
			for _, imm := range numbers {
				for _, p := range pairs {
					c := Core{PC: pc}
					c.R[3], c.R[4] = p[0], p[1]
					check(t, &c, served(code(op, 3, 4, 5, imm)))
				}
			}
		}
	}
}

// Where execution continues, worked out by hand.
func TestWhereTo(t *testing.T) {
	for _, x := range []struct {
		op       int
		pc       uint64
		imm      int32
		a, b     uint64
		next, a2 uint64
	}{
		{isa.Jal, 8, 2, 0, 0, 24, 16}, // the chapter's example
		{isa.Jal, 8, 0, 5, 5, 8, 16},
		{isa.Jal, 8, 1, 0, 0, 16, 16},
		{isa.Jal, 64, -8, 0, 0, 0, 72},
		{isa.Jal, 0, -1, 0, 0, 0xFFFFFFFFFFFFFFF8, 8},
		{isa.Jal, space - 8, 1, 0, 0, space, space},
		{isa.Jal, 0, math.MinInt32, 0, 0, 0xFFFFFFFC00000000, 8},
		{isa.Jal, 0, math.MaxInt32, 0, 0, 0x3FFFFFFF8, 8},
		{isa.Jr, 8, 7, 24, 0, 24, 24},
		{isa.Jr, 8, 7, 3, 0, 3, 3},
		{isa.Jr, 8, 7, minus, 0, minus, minus},
		{isa.Jr, 8, 7, space, 0, space, space},
		{isa.Beq, 8, 2, 7, 7, 24, 7},
		{isa.Beq, 8, 2, 7, 8, 16, 7},
		{isa.Bne, 80, -9, 7, 8, 8, 7},
		{isa.Bne, 80, -9, 7, 7, 88, 7},
		{isa.Blt, 8, -2, minus, 0, 0xFFFFFFFFFFFFFFF8, minus},
		{isa.Blt, 8, -2, 0, minus, 16, 0},
		{isa.Bltu, 8, 3, 0, minus, 32, 0},
		{isa.Bltu, 8, 3, minus, 0, 16, minus},
		{isa.Beq, space - 8, 3, 1, 2, space, 1},
		{isa.Trap, 8, 3, 1, 2, 16, 1},
	} {
		c := Core{PC: x.pc}
		c.R[15], c.R[1] = x.a, x.b
		check(t, &c, served(code(x.op, 15, 1, 0, x.imm)))
		if c.PC != x.next || c.R[15] != x.a2 {
			t.Errorf("op %d at %d by %d: next %#x, A %#x", x.op, x.pc, x.imm, c.PC, c.R[15])
		}
	}
}

// What becomes of A, worked out by hand; A is r1, B r2, C r3.
func TestWhatA(t *testing.T) {
	for _, x := range []struct {
		op       int
		imm      int32
		a, b, c  uint64
		end      int
		becoming uint64
	}{
		{isa.Li, -2, sample, 0, 0, Ran, minus - 1},
		{isa.Li, 5, minus, 0, 0, Ran, 5},
		{isa.Li, math.MinInt32, 0, 0, 0, Ran, 0xFFFFFFFF80000000},
		{isa.Li, math.MaxInt32, minus, 0, 0, Ran, 0x7FFFFFFF},
		{isa.Hi, 7, sample, 0, 0, Ran, 0x00000007B5A69788},
		{isa.Hi, -2, sample, 0, 0, Ran, 0xFFFFFFFEB5A69788},
		{isa.Hi, 0, minus, 0, 0, Ran, 0xFFFFFFFF},
		{isa.Addi, -4, 0, 3, 9, Ran, minus},
		{isa.Addi, 4, 0, minus, 9, Ran, 3},
		{isa.Addi, math.MinInt32, 0, least, 9, Ran, 0x7FFFFFFF80000000},
		{isa.Sub, 9, 0, 3, 5, Ran, minus - 1},
		{isa.Div, 9, 6, 7, 2, Ran, 3},
		{isa.Div, 9, 6, 7, 0, Divided, 6},
		{isa.Div, 9, 6, 0, 0, Divided, 6},
		{isa.Div, 9, 6, least, minus, Ran, least},
		{isa.Rem, 9, 6, 7, 4, Ran, 3},
		{isa.Rem, 9, 6, 7, 0, Divided, 6},
		{isa.Rem, 9, 6, least, minus, Ran, 0},
		{isa.Fdiv, 9, 6, 0x3FF0000000000000, 0, Ran, 0x7FF0000000000000},
		{isa.Fsqrt, 9, 6, 0x4010000000000000, minus, Ran, 0x4000000000000000},
		{isa.Ld, 8, 6, 64, 0, Ran, sample},
		{isa.Lw, 4, minus, 64, 0, Ran, 0xB5A69788},
		{isa.Lb, 3, minus, 64, 0, Ran, 0x88},
		{isa.Halt, 0, sample, 0, 0, Halted, sample},
		{isa.Trap, 9, sample, 0, 0, Trapped, sample},
	} {
		c := Core{PC: 8}
		c.R[1], c.R[2], c.R[3] = x.a, x.b, x.c
		if end := check(t, &c, served(code(x.op, 1, 2, 3, x.imm))); end != x.end || c.R[1] != x.becoming {
			t.Errorf("op %d of %#x, %#x, %d: end %d, A %#x", x.op, x.b, x.c, x.imm, end, c.R[1])
		}
	}
}

// Loads and stores at addresses around the space's ends, from bases on which the sum goes round.
func TestPlaces(t *testing.T) {
	bases := []uint64{0, 1, 2, 4, 6, 8, 64, space - 9, space - 8, space - 7, space - 4, space - 2, space - 1, space, space + 8, 1 << 32, 1 << 40, least, greatest, minus - 63, minus - 7, minus - 3, minus, 1 << 31, minus - 1<<31 + 1}
	for op := range widths {
		for _, b := range bases {
			for _, imm := range numbers {
				for _, serves := range []bool{true, false} {
					c := Core{PC: 16}
					c.R[1], c.R[2] = sample, b
					s := served(code(op, 1, 2, 3, imm))
					s.serves = serves
					check(t, &c, s)
					c = Core{PC: 16} // the number that is moved, and its address, of one register
					c.R[2] = b
					s.code = code(op, 2, 2, 3, imm)
					check(t, &c, s)
				}
			}
		}
	}
}

// A ram is a memory of real bytes; those beyond it may not be reached.
type ram struct {
	b     []byte
	fixed bool // nothing may be written
}

func (m *ram) Load(va, width int) (uint64, bool) {
	if va+width > len(m.b) {
		return 0, false
	}
	return new(big.Int).SetBytes(m.b[va : va+width]).Uint64(), true
}

func (m *ram) Store(va, width int, x uint64) bool {
	if va+width > len(m.b) || m.fixed {
		return false
	}
	new(big.Int).SetUint64(x).FillBytes(m.b[va : va+width]) // which has no room for a number of more bytes
	return true
}

// load makes a ram with a program at 0.
func load(n int, program ...uint64) *ram {
	m := &ram{b: make([]byte, n)}
	for i, x := range program {
		copy(m.b[8*i:], eight(x))
	}
	return m
}

// run steps until the end is another one than Ran, at most n times; it returns the end and how many steps there were.
func run(c *Core, m Memory, n int) (int, int) {
	for i := range n {
		if end := c.Step(m); end != Ran {
			return end, i + 1
		}
	}
	return Ran, n
}

// The bytes that are stored, the highest first, and their neighbours, which stay.
func TestStoredBytes(t *testing.T) {
	for _, x := range []struct {
		op, at int
		want   string
	}{
		{isa.St, 64, "\xF1\xE2\xD3\xC4\xB5\xA6\x97\x88"},
		{isa.Sw, 68, "\xB5\xA6\x97\x88"},
		{isa.Sb, 71, "\x88"},
		{isa.Sb, 64, "\x88"},
		{isa.St, 120, "\xF1\xE2\xD3\xC4\xB5\xA6\x97\x88"},
		{isa.Sw, 124, "\xB5\xA6\x97\x88"},
		{isa.Sb, 127, "\x88"},
		{isa.Sb, 0, "\x88"}, // onto the instruction itself
	} {
		m := load(128, code(x.op, 1, 2, 0, int32(x.at)))
		want := slices.Clone(m.b)
		copy(want[x.at:], x.want)
		var c Core
		c.R[1] = sample
		if end := c.Step(m); end != Ran || !slices.Equal(m.b, want) || c.R[1] != sample || c.PC != 8 {
			t.Errorf("op %d at %d: end %d, bytes %x", x.op, x.at, end, m.b)
		}
	}
}

// Beyond a memory's end, and where it may not be written, nothing is moved.
func TestRefused(t *testing.T) {
	for op, w := range widths {
		for _, at := range []int{128, 256, space - w} {
			m := load(128, code(op, 1, 2, 0, int32(at)))
			before := slices.Clone(m.b)
			var c Core
			c.R[1] = sample
			old := c
			if end := c.Step(m); end != Fault || c != old || !slices.Equal(m.b, before) {
				t.Errorf("op %d at %d: %d %v", op, at, end, c)
			}
		}
		m := load(128, code(op, 1, 2, 0, 64))
		m.fixed = true
		before := slices.Clone(m.b)
		var c Core
		c.R[1] = sample
		end := c.Step(m)
		if stores := op >= isa.St; stores && (end != Fault || c.PC != 0) || !stores && (end != Ran || c.R[1] != 0) || !slices.Equal(m.b, before) {
			t.Errorf("op %d of a memory that may not be written: %d %v", op, end, c)
		}
	}
}

// The sum of 1 to 10 by a loop, in a routine that is called and returns through one register.
func TestProgram(t *testing.T) {
	m := load(128,
		code(isa.Li, 1, 0, 0, 10),
		code(isa.Jal, 15, 0, 0, 3), // to 32
		code(isa.St, 2, 0, 0, 120),
		code(isa.Halt, 0, 0, 0, 0),
		code(isa.Add, 2, 2, 1, 0),
		code(isa.Addi, 1, 1, 0, -1),
		code(isa.Bne, 1, 0, 0, -2),
		code(isa.Jr, 15, 0, 0, 0),
	)
	var c Core
	end, steps := run(&c, m, 1000)
	if end != Halted || steps != 2+30+1+2 || c.PC != 24 || c.R != [16]uint64{2: 55, 15: 16} {
		t.Fatal(end, steps, c)
	}
	if x, _ := m.Load(120, 8); x != 55 {
		t.Fatal(x)
	}
	if end := c.Step(m); end != Halted || c.PC != 24 {
		t.Fatal("halted, and it went on:", end, c)
	}
}

// A program that writes its next instruction, and one that runs to the memory's end.
func TestOwnBytes(t *testing.T) {
	m := load(64, code(isa.Li, 1, 0, 0, 7), code(isa.Li, 2, 0, 0, isa.Trap), code(isa.Sb, 2, 0, 0, 24), code(isa.Halt, 0, 0, 0, 0))
	for at := 32; at < 64; at += 8 {
		copy(m.b[at:], eight(code(isa.Addi, 1, 1, 0, 1)))
	}
	var c Core
	if end, steps := run(&c, m, 100); end != Trapped || steps != 4 || c.PC != 32 {
		t.Fatal(end, steps, c)
	}
	if end, steps := run(&c, m, 100); end != Fault || steps != 5 || c.PC != 64 || c.R[1] != 11 {
		t.Fatal(end, steps, c)
	}
}

// To the space's last instruction and one further: crooked, as also after each jump beside it.
func TestSpaceEnd(t *testing.T) {
	m := load(space)
	copy(m.b[space-8:], eight(code(isa.Li, 1, 0, 0, 5)))
	c := Core{PC: space - 8}
	if end, steps := run(&c, m, 10); end != Crooked || steps != 2 || c.PC != space || c.R[1] != 5 {
		t.Fatal(end, steps, c)
	}
	for _, to := range []uint64{4, space, minus, minus - 7, least} {
		m := load(64, code(isa.Jr, 1, 0, 0, 0))
		var c Core
		c.R[1] = to
		if end, steps := run(&c, m, 10); end != Crooked || steps != 2 || c.PC != to {
			t.Fatal(to, end, steps, c)
		}
	}
}

// A long way of instructions put together by a rule, on one core whose registers and address go on.
func TestLongWay(t *testing.T) {
	x := uint64(9)
	next := func(n uint64) int {
		x = x*6364136223846793005 + 1442695040888963407
		return int(x >> 33 % n)
	}
	c := fillings()[2]
	ends := map[int]int{}
	for range 200000 {
		op := next(46)
		imm := int32(next(1 << 31))
		if next(3) > 0 {
			imm = int32(next(64)) - 32
		}
		s := spy{code: code(op, next(16), next(16), next(16), imm), gives: next(50) > 0, serves: next(20) > 0}
		s.data = uint64(next(1<<31)) << (8 * next(5))
		end := check(t, &c, s)
		ends[end]++
		if end > Trapped {
			c.PC = uint64(8 * next(space/8))
			c.R[next(16)] = uint64(8 * next(space/8))
		}
	}
	for end := range Crooked + 1 {
		if ends[end] < 100 {
			t.Errorf("only %d steps ended with %d", ends[end], end)
		}
	}
}
