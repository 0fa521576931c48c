package frames

import (
	"bytes"
	"math"
	"slices"
	"testing"

	"glacis/api"
)

// owners are those that a test charges frames to, the edges among them.
var owners = []uint64{1, 2, 7, 255, 256, 1 << 32, 1<<32 + 1, 1 << 63, 1<<63 + 7, math.MaxUint64 - 1, math.MaxUint64}

// extremes are numbers that no frame, no offset and no length has, or that a sum takes round.
var extremes = []int{math.MinInt, math.MinInt + 1, math.MinInt32, -256, -65, -64, -2, -1, 1 << 16, 1 << 32, 1<<32 + 1, math.MaxInt32, math.MaxInt - 64, math.MaxInt - 63, math.MaxInt - 1, math.MaxInt}

// A model is what a pool should hold: frame f at f-1, owner 0 if it is free.
type model struct {
	owner []uint64
	data  [][]byte
}

func newModel(n int) *model {
	m := &model{owner: make([]uint64, n), data: make([][]byte, n)}
	for i := range m.data {
		m.data[i] = make([]byte, api.Page)
	}
	return m
}

// alloc is the chapter's Alloc: where the least free frame stands, it is charged and zero.
func (m *model) alloc(owner uint64) int {
	i := slices.Index(m.owner, 0)
	if owner == 0 || i < 0 {
		return 0
	}
	m.owner[i] = owner
	m.data[i] = make([]byte, api.Page)
	return i + 1
}

// charged: is f a frame, and has it an owner?
func (m *model) charged(f int) bool {
	return slices.Contains(m.frames(func(owner uint64) bool { return owner != 0 }), f)
}

func (m *model) frames(which func(owner uint64) bool) []int {
	var all []int
	for i, owner := range m.owner {
		if which(owner) {
			all = append(all, i+1)
		}
	}
	return all
}

// count is how many frames have this owner, or are free.
func (m *model) count(owner uint64) int {
	return len(m.frames(func(o uint64) bool { return o == owner }))
}

// check holds everything that can be asked of a pool against the model.
func check(t *testing.T, what string, p *Pool, m *model) {
	t.Helper()
	if p.Len() != len(m.owner) || p.Left() != m.count(0) {
		t.Fatalf("%s: Len is %d, Left is %d, not %d and %d", what, p.Len(), p.Left(), len(m.owner), m.count(0))
	}
	for i, owner := range m.owner {
		if got := p.Owner(i + 1); got != owner {
			t.Fatalf("%s: the owner of %d is %d, not %d", what, i+1, got, owner)
		}
		got := p.Read(i+1, 0, api.Page)
		if owner == 0 && got != nil || owner != 0 && !bytes.Equal(got, m.data[i]) {
			t.Fatalf("%s: frame %d of owner %d holds %v, not %v", what, i+1, owner, got, m.data[i])
		}
	}
	for _, owner := range append([]uint64{3}, owners...) {
		if got := p.Count(owner); got != m.count(owner) {
			t.Fatalf("%s: Count(%d) is %d, not %d", what, owner, got, m.count(owner))
		}
	}
	if got := p.Count(0); got != 0 {
		t.Fatalf("%s: Count(0) is %d", what, got)
	}
	checkNone(t, what, p, 0, len(m.owner)+1)
}

// checkNone holds numbers that no frame of the pool has against what they must answer.
func checkNone(t *testing.T, what string, p *Pool, numbers ...int) {
	t.Helper()
	for _, f := range numbers {
		if p.Owner(f) != 0 || p.Read(f, 0, 0) != nil || p.Read(f, 0, 1) != nil || p.Read(f, 0, api.Page) != nil || p.Write(f, 0, nil) || p.Write(f, 0, []byte{1}) {
			t.Fatalf("%s: there is a frame %d", what, f)
		}
	}
}

// mixed is a pool and its model: of five frames the third is free, and each other is full of a number of its own.
func mixed() (*Pool, *model) {
	p, m := New(5), newModel(5)
	for i, owner := range []uint64{9, 7, 4, 7, math.MaxUint64} {
		p.Alloc(owner)
		m.owner[i] = owner
		m.data[i] = bytes.Repeat([]byte{byte(17 * (i + 1))}, api.Page)
		p.Write(i+1, 0, m.data[i])
	}
	p.Free(3)
	m.owner[2] = 0
	return p, m
}

func TestNew(t *testing.T) {
	for _, n := range append([]int{0, api.MaxFrames + 1, api.MaxFrames + 2, 2 * api.MaxFrames}, extremes...) {
		if New(n) != nil {
			t.Errorf("New(%d) is a pool", n)
		}
	}
	for _, n := range []int{1, 2, 3, 63, 64, 65, 255, 256, api.MaxFrames - 1, api.MaxFrames} {
		p := New(n)
		if p == nil {
			t.Fatalf("New(%d) is nil", n)
		}
		check(t, "new", p, newModel(n))
	}
}

func TestPoolsApart(t *testing.T) {
	a, b := New(2), New(2)
	a.Alloc(1)
	a.Write(1, 0, []byte{5})
	check(t, "the other pool", b, newModel(2))
	b.Alloc(2)
	b.Write(1, 0, []byte{6})
	if !bytes.Equal(a.Read(1, 0, 1), []byte{5}) || a.Owner(1) != 1 || b.Owner(1) != 2 {
		t.Error("two pools have frames in common")
	}
}

func TestExample(t *testing.T) {
	p := New(2)
	for _, want := range []int{1, 2, 0} {
		if got := p.Alloc(7); got != want {
			t.Fatalf("Alloc(7) is %d, not %d", got, want)
		}
	}
	p.Free(1)
	if got := p.Alloc(8); got != 1 {
		t.Fatalf("Alloc(8) is %d", got)
	}
}

func TestAllocAll(t *testing.T) {
	for _, n := range []int{1, 2, 65, api.MaxFrames} {
		p, m := New(n), newModel(n)
		for f := 1; f <= n; f++ {
			owner := owners[f%len(owners)]
			if got := p.Alloc(owner); got != f || m.alloc(owner) != f || p.Left() != n-f {
				t.Fatalf("Alloc %d of %d is %d, Left is %d", f, n, got, p.Left())
			}
		}
		for range 3 {
			if got := p.Alloc(5); got != 0 {
				t.Fatalf("Alloc of a full pool is %d", got)
			}
		}
		check(t, "full", p, m)
		p.Free(n)
		if got := p.Alloc(6); got != n {
			t.Fatalf("Alloc of the last one of %d is %d", n, got)
		}
	}
}

func TestAllocLeast(t *testing.T) {
	p, m := New(6), newModel(6)
	for range 6 {
		p.Alloc(1)
		m.alloc(1)
	}
	// Freed out of order: the least number counts, not the one freed first or last.
	for _, f := range []int{4, 2, 6, 3} {
		p.Free(f)
		m.owner[f-1] = 0
	}
	for _, want := range []int{2, 3, 4, 6, 0} {
		owner := uint64(10 + want)
		if got := p.Alloc(owner); got != want || m.alloc(owner) != want {
			t.Fatalf("Alloc is %d, not %d", got, want)
		}
		check(t, "Alloc", p, m)
	}
	for _, f := range []int{5, 1} {
		p.Free(f)
		if got := p.Alloc(2); got != f {
			t.Fatalf("Alloc behind Free(%d) is %d", f, got)
		}
	}
}

func TestAllocNobody(t *testing.T) {
	p, m := mixed()
	for range 3 {
		if got := p.Alloc(0); got != 0 {
			t.Fatalf("Alloc(0) is %d", got)
		}
		check(t, "Alloc(0)", p, m)
	}
	if got := p.Alloc(5); got != 3 {
		t.Errorf("Alloc behind Alloc(0) is %d", got)
	}
}

func TestAllocZero(t *testing.T) {
	p, m := New(3), newModel(3)
	for range 3 {
		p.Alloc(7)
		m.alloc(7)
	}
	for f := 1; f <= 3; f++ {
		m.data[f-1] = bytes.Repeat([]byte{255}, api.Page)
		p.Write(f, 0, m.data[f-1])
	}
	for _, owner := range []uint64{7, 8, 7} {
		p.Free(2)
		m.owner[1] = 0
		check(t, "free", p, m)
		if got := p.Alloc(owner); got != 2 || m.alloc(owner) != 2 {
			t.Fatalf("Alloc(%d) is %d", owner, got)
		}
		check(t, "charged anew", p, m)
		m.data[1] = bytes.Repeat([]byte{1}, api.Page)
		p.Write(2, 0, m.data[1])
	}
}

func TestFree(t *testing.T) {
	p, m := mixed()
	for _, f := range append([]int{0, 6, 7, 3, 3, api.MaxFrames, api.MaxFrames + 1}, extremes...) {
		p.Free(f)
		check(t, "Free of none or a free one", p, m)
	}
	for _, f := range []int{5, 1, 1, 5, 4, 2} {
		p.Free(f)
		m.owner[f-1] = 0
		check(t, "Free", p, m)
	}
	if p.Left() != 5 {
		t.Errorf("Left is %d of five free ones", p.Left())
	}
}

func TestOwner(t *testing.T) {
	p := New(len(owners))
	for i, owner := range owners {
		p.Alloc(owner)
		if got := p.Owner(i + 1); got != owner {
			t.Errorf("the owner of %d is %d, not %d", i+1, got, owner)
		}
	}
	for _, f := range append([]int{0, len(owners) + 1}, extremes...) {
		if got := p.Owner(f); got != 0 {
			t.Errorf("the owner of %d is %d", f, got)
		}
	}
	p.Free(4)
	if got := p.Owner(4); got != 0 {
		t.Errorf("the owner of a free frame is %d", got)
	}
}

func TestCount(t *testing.T) {
	p := New(20)
	for i, owner := range owners {
		for n := range i % 3 {
			if got := p.Count(owner); got != n {
				t.Errorf("Count(%d) is %d, not %d", owner, got, n)
			}
			p.Alloc(owner)
		}
		if got := p.Count(owner); got != i%3 {
			t.Errorf("Count(%d) is %d, not %d", owner, got, i%3)
		}
	}
	if got := p.Count(0); got != 0 {
		t.Errorf("Count(0) is %d, with %d free", got, p.Left())
	}
	if got := p.Count(3); got != 0 {
		t.Errorf("Count of one who has nothing is %d", got)
	}
	// The second frame is the third owner's first.
	owner := p.Owner(2)
	p.Free(2)
	if got := p.Count(owner); got != 1 {
		t.Errorf("Count behind Free is %d", got)
	}
}

// inside: do n bytes from off on lie within a page? Its sum holds for small numbers alone.
func inside(off, n int) bool {
	return n >= 0 && off >= 0 && off+n <= api.Page
}

func TestRead(t *testing.T) {
	p, _ := mixed()
	page := make([]byte, api.Page)
	for i := range page {
		page[i] = byte(3*i + 1)
	}
	p.Write(2, 0, page)
	for off := -3; off <= api.Page+3; off++ {
		for n := -3; n <= api.Page+3; n++ {
			got := p.Read(2, off, n)
			switch {
			case !inside(off, n) && got != nil:
				t.Fatalf("Read(2, %d, %d) is %v", off, n, got)
			case inside(off, n) && !bytes.Equal(got, page[off:off+n]):
				t.Fatalf("Read(2, %d, %d) is %v, not %v", off, n, got, page[off:off+n])
			}
			for _, f := range []int{-1, 0, 3, 6, api.MaxFrames} {
				if got := p.Read(f, off, n); got != nil {
					t.Fatalf("Read(%d, %d, %d) is %v", f, off, n, got)
				}
			}
		}
	}
}

func TestReadExtremes(t *testing.T) {
	p, m := mixed()
	for _, x := range extremes {
		for _, y := range append([]int{0, 1, 63, 64, 65}, extremes...) {
			if p.Read(1, x, y) != nil || p.Read(1, y, x) != nil || p.Read(x, y, 0) != nil || p.Read(x, 0, y) != nil {
				t.Fatalf("something is read with %d and %d", x, y)
			}
		}
	}
	check(t, "Read", p, m)
}

func TestReadIsNew(t *testing.T) {
	p, m := mixed()
	a, b := p.Read(1, 0, api.Page), p.Read(1, 0, api.Page)
	clear(a)
	if !bytes.Equal(b, m.data[0]) {
		t.Error("two answers share memory")
	}
	// What is appended to an answer must not land in the frame behind it.
	short := append(p.Read(1, 4, 8), 1, 2, 3, 4)
	clear(short)
	check(t, "the answer changed", p, m)
	b = p.Read(1, 0, api.Page)
	p.Write(1, 0, make([]byte, api.Page))
	if !bytes.Equal(b, m.data[0]) {
		t.Error("Write changes what was read before")
	}
}

func TestWrite(t *testing.T) {
	for off := -3; off <= api.Page+3; off++ {
		for n := 0; n <= api.Page+3; n++ {
			p, m := mixed()
			b := make([]byte, n)
			for i := range b {
				b[i] = byte(off + i + 100)
			}
			given := slices.Clone(b)
			if got := p.Write(2, off, b); got != inside(off, n) {
				t.Fatalf("Write of %d bytes at %d is %v", n, off, got)
			}
			if inside(off, n) {
				copy(m.data[1][off:off+n], b)
			}
			if !bytes.Equal(b, given) {
				t.Fatalf("Write makes %v of %v", b, given)
			}
			check(t, "Write", p, m)
			for _, f := range []int{-1, 0, 3, 6, api.MaxFrames} {
				if p.Write(f, off, b) {
					t.Fatalf("%d bytes are written to %d at %d", n, f, off)
				}
			}
			check(t, "Write to no frame", p, m)
			clear(b)
			check(t, "the argument changed", p, m)
		}
	}
}

func TestWriteExtremes(t *testing.T) {
	p, m := mixed()
	for _, x := range extremes {
		for _, n := range []int{0, 1, 63, 64, 65, 128, 1 << 16} {
			b := bytes.Repeat([]byte{99}, n)
			if p.Write(1, x, b) || p.Write(5, x, b) || p.Write(x, 0, b) || p.Write(x, x, b) {
				t.Fatalf("%d bytes are written with %d", n, x)
			}
		}
	}
	for _, n := range []int{65, 128, 320, 1 << 16} {
		if p.Write(1, 0, bytes.Repeat([]byte{99}, n)) {
			t.Fatalf("%d bytes are written to a frame", n)
		}
	}
	check(t, "Write", p, m)
}

func TestEmptyRanges(t *testing.T) {
	p, m := mixed()
	for _, f := range []int{1, 2, 4, 5} {
		for off := 0; off <= api.Page; off++ {
			if !p.Write(f, off, nil) || !p.Write(f, off, []byte{}) || len(p.Read(f, off, 0)) != 0 {
				t.Fatalf("no empty range at %d of frame %d", off, f)
			}
		}
		if p.Write(f, -1, nil) || p.Write(f, api.Page+1, nil) || p.Read(f, -1, 0) != nil || p.Read(f, api.Page+1, 0) != nil {
			t.Fatalf("an empty range beside frame %d", f)
		}
	}
	check(t, "nothing written", p, m)
}

func TestNilPool(t *testing.T) {
	var p *Pool
	for _, x := range append([]int{0, 1, 2, 64, api.MaxFrames}, extremes...) {
		p.Free(x)
		if p.Len() != 0 || p.Left() != 0 || p.Alloc(uint64(x)) != 0 || p.Owner(x) != 0 || p.Count(uint64(x)) != 0 {
			t.Fatalf("a nil pool has frames, with %d", x)
		}
		if p.Read(x, 0, 0) != nil || p.Read(1, x, 1) != nil || p.Read(1, 0, x) != nil || p.Write(x, 0, nil) || p.Write(1, x, []byte{1}) {
			t.Fatalf("a nil pool has bytes, with %d", x)
		}
	}
}

// TestManyCalls goes a long way of calls that hang together, and holds the pool against the model after each.
func TestManyCalls(t *testing.T) {
	for _, n := range []int{1, 2, 3, 9} {
		p, m := New(n), newModel(n)
		seed := uint32(n)
		next := func(below int) int {
			seed = seed*1664525 + 1013904223
			return int(seed>>8) % below
		}
		for range 4000 {
			f := next(n+3) - 1
			switch next(6) {
			case 0, 1:
				owner := owners[next(len(owners))] * uint64(next(4))
				if got, want := p.Alloc(owner), m.alloc(owner); got != want {
					t.Fatalf("Alloc(%d) is %d, not %d", owner, got, want)
				}
			case 2:
				p.Free(f)
				if m.charged(f) {
					m.owner[f-1] = 0
				}
			default:
				off, b := next(70)-3, make([]byte, next(70))
				for i := range b {
					b[i] = byte(next(256))
				}
				can := m.charged(f) && inside(off, len(b))
				if got := p.Write(f, off, b); got != can {
					t.Fatalf("Write(%d, %d, %d bytes) is %v", f, off, len(b), got)
				}
				if can {
					copy(m.data[f-1][off:], b)
				}
			}
			check(t, "many calls", p, m)
		}
	}
}
