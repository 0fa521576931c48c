package bytes

import (
	"encoding/binary"
	"math"
	"math/big"
	"slices"
	"testing"

	"glacis/api"
	"glacis/frames"
)

const (
	page  = 64 // bytes of one
	limit = 16 // pages of a segment
	least = math.MinInt
	most  = math.MaxInt
)

// extremes are numbers that no page, offset or length is, or that a sum takes round.
var extremes = []int{
	least, least + 1, least + page, least + limit*page, math.MinInt32, -1 << 32, -limit*page - 1, -limit * page, -page - 1, -page, -page + 1, -9, -8, -2,
	1 << 16, math.MaxInt32, math.MaxUint32, 1 << 32, 1<<32 + 1, 1<<32 + page, 1 << 62, most - limit*page, most - page, most - page + 1, most - 8, most - 7, most - 1,
}

// owners are those that pages are charged to.
var owners = []uint64{1, 2, 7, 255, 1 << 22, 1 << 32, 1<<32 + 1, 1 << 63, math.MaxUint64 - 1, math.MaxUint64}

// A rig is a pool with some segments, beside what they should be, which is kept without the package: owner and bytes of each frame (owner 0: it is free), and each segment's frames.
type rig struct {
	t     *testing.T
	p     *frames.Pool
	segs  []*Seg
	owner []uint64
	data  [][]byte
	held  [][]int
}

func newRig(t *testing.T, size, segs int) *rig {
	t.Helper()
	r := &rig{t: t, p: frames.New(size), owner: make([]uint64, size), data: make([][]byte, size), held: make([][]int, segs)}
	for range segs {
		r.segs = append(r.segs, new(Seg))
	}
	return r
}

// alloc is layer 6's Alloc in what should be.
func (r *rig) alloc(owner uint64) int {
	i := slices.Index(r.owner, 0)
	if i < 0 || owner == 0 {
		r.t.Fatal("the test itself allocates what there is not")
	}
	r.owner[i], r.data[i] = owner, make([]byte, page)
	return i + 1
}

// other charges a frame to somebody who isn't a segment, and fills it.
func (r *rig) other(owner uint64) int {
	f := r.alloc(owner)
	if got := r.p.Alloc(owner); got != f {
		r.t.Fatalf("Alloc is %d, not %d", got, f)
	}
	r.data[f-1] = pattern(owner, page)
	r.p.Write(f, 0, r.data[f-1])
	return f
}

// release frees a frame of somebody who isn't a segment.
func (r *rig) release(f int) {
	r.owner[f-1] = 0
	r.p.Free(f)
}

// free is how many frames should be free.
func (r *rig) free() int {
	n := 0
	for _, owner := range r.owner {
		if owner == 0 {
			n++
		}
	}
	return n
}

// content is what a segment should hold.
func (r *rig) content(i int) []byte {
	var all []byte
	for _, f := range r.held[i] {
		all = append(all, r.data[f-1]...)
	}
	return all
}

// store makes bytes of a segment what they should be.
func (r *rig) store(i, off int, b []byte) {
	for k, c := range b {
		r.data[r.held[i][(off+k)/page]-1][(off+k)%page] = c
	}
}

// lies: do n bytes from off on lie within so many? Reckoned by numbers that don't overflow.
func lies(off, n, size int) bool {
	end := new(big.Int).Add(big.NewInt(int64(off)), big.NewInt(int64(n)))
	return off >= 0 && n >= 0 && end.Cmp(big.NewInt(int64(size))) <= 0
}

// lies: do they lie within a segment?
func (r *rig) lies(i, off, n int) bool { return lies(off, n, len(r.held[i])*page) }

// pattern is n bytes that no shift by a few bytes or pages leaves as they were.
func pattern(seed uint64, n int) []byte {
	b := make([]byte, n)
	x := seed*2862933555777941757 + 3037000493
	for i := range b {
		x = x*6364136223846793005 + 1442695040888963407
		b[i] = byte(x >> 56)
	}
	return b
}

// check holds everything that can be asked of the pool and the segments against what they should be.
func (r *rig) check(what string, args ...any) {
	r.t.Helper()
	if r.p.Len() != len(r.owner) || r.p.Left() != r.free() {
		r.t.Fatalf("%s %v: of %d frames %d are free, not %d", what, args, r.p.Len(), r.p.Left(), r.free())
	}
	for i, owner := range r.owner {
		if got := r.p.Owner(i + 1); got != owner {
			r.t.Fatalf("%s %v: the owner of %d is %d, not %d", what, args, i+1, got, owner)
		}
		if owner != 0 && !slices.Equal(r.p.Read(i+1, 0, page), r.data[i]) {
			r.t.Fatalf("%s %v: frame %d holds %v, not %v", what, args, i+1, r.p.Read(i+1, 0, page), r.data[i])
		}
	}
	for i, s := range r.segs {
		n := len(r.held[i])
		if s.Pages() != n || s.Size() != n*page {
			r.t.Fatalf("%s %v: segment %d has %d pages and %d bytes, not %d pages", what, args, i, s.Pages(), s.Size(), n)
		}
		for k, f := range r.held[i] {
			if got := s.Frame(k); got != f {
				r.t.Fatalf("%s %v: page %d of segment %d has frame %d, not %d", what, args, k, i, got, f)
			}
		}
		if s.Frame(-1) != 0 || s.Frame(n) != 0 {
			r.t.Fatalf("%s %v: segment %d has frame %d ahead of its pages, %d behind them", what, args, i, s.Frame(-1), s.Frame(n))
		}
		got, ok := s.Read(r.p, 0, n*page)
		if !ok || !slices.Equal(got, r.content(i)) {
			r.t.Fatalf("%s %v: segment %d holds %v, %v, not %v", what, args, i, got, ok, r.content(i))
		}
	}
}

// resize, and those behind it, do one call and hold what it answers, and all that it left, against what should be.
func (r *rig) resize(i int, owner uint64, n int) bool {
	r.t.Helper()
	want := 0 <= n && n <= limit && owner != 0
	if want {
		want = n-len(r.held[i]) <= r.free()
	}
	if want {
		for len(r.held[i]) > n {
			last := len(r.held[i]) - 1
			r.owner[r.held[i][last]-1] = 0
			r.held[i] = r.held[i][:last]
		}
		for len(r.held[i]) < n {
			r.held[i] = append(r.held[i], r.alloc(owner))
		}
	}
	if got := r.segs[i].Resize(r.p, owner, n); got != want {
		r.t.Fatalf("Resize of segment %d to %d for %d is %v", i, n, owner, got)
	}
	r.check("Resize", i, owner, n)
	return want
}

// read leaves out the check: it is for very many calls.
func (r *rig) read(i, off, n int) {
	r.t.Helper()
	got, ok := r.segs[i].Read(r.p, off, n)
	switch want := r.lies(i, off, n); {
	case ok != want || !ok && len(got) != 0:
		r.t.Fatalf("Read(%d, %d) of segment %d is %v, %v", off, n, i, got, ok)
	case ok && !slices.Equal(got, r.content(i)[off:off+n]):
		r.t.Fatalf("Read(%d, %d) of segment %d is %v, not %v", off, n, i, got, r.content(i)[off:off+n])
	}
}

func (r *rig) write(i, off int, b []byte) {
	r.t.Helper()
	given, want := slices.Clone(b), r.lies(i, off, len(b))
	if got := r.segs[i].Write(r.p, off, b); got != want {
		r.t.Fatalf("Write of %d bytes at %d of segment %d is %v", len(b), off, i, got)
	}
	if !slices.Equal(b, given) {
		r.t.Fatalf("Write makes %v of %v", b, given)
	}
	if want {
		r.store(i, off, b)
	}
	r.check("Write", i, off, len(b))
}

// number is what Num should answer.
func (r *rig) number(i, off, width int) (uint64, bool) {
	if width < 1 || width > 8 || !r.lies(i, off, width) {
		return 0, false
	}
	x := new(big.Int).SetBytes(r.content(i)[off : off+width])
	return x.Uint64(), true
}

func (r *rig) num(i, off, width int) {
	r.t.Helper()
	x, ok := r.number(i, off, width)
	if got, is := r.segs[i].Num(r.p, off, width); got != x || is != ok {
		r.t.Fatalf("Num(%d, %d) of segment %d is %#x, %v, not %#x, %v", off, width, i, got, is, x, ok)
	}
}

func (r *rig) put(i, off, width int, x uint64) {
	r.t.Helper()
	_, want := r.number(i, off, width)
	if got := r.segs[i].Put(r.p, off, width, x); got != want {
		r.t.Fatalf("Put(%d, %d, %#x) to segment %d is %v", off, width, x, i, got)
	}
	if want {
		eight := binary.BigEndian.AppendUint64(nil, x)
		r.store(i, off, eight[8-width:])
	}
	r.check("Put", i, off, width, x)
}

func (r *rig) copy(i, off, from, at, n int) {
	r.t.Helper()
	want := r.lies(i, off, n) && r.lies(from, at, n)
	if got := r.segs[i].Copy(r.p, off, r.segs[from], at, n); got != want {
		r.t.Fatalf("Copy to %d of segment %d of %d bytes at %d of segment %d is %v", off, i, n, at, from, got)
	}
	if want {
		r.store(i, off, r.content(from)[at:at+n])
	}
	r.check("Copy", i, off, from, at, n)
}

// fill writes other bytes to all of a segment.
func (r *rig) fill(i int, seed uint64) {
	r.t.Helper()
	r.write(i, 0, pattern(seed, len(r.held[i])*page))
}

// scattered is a rig of two segments, of n pages each and full of bytes, whose frames lie among one another's and others', neither rising nor falling.
func scattered(t *testing.T, n int) *rig {
	t.Helper()
	r := newRig(t, 2*n+4, 2)
	gaps := []int{r.other(90), r.other(91), r.other(92)}
	for k := 1; k <= n; k++ {
		if k == (n+1)/2 {
			r.release(gaps[1])
		}
		r.resize(0, 10, k)
		r.resize(1, 11, k)
		if k == n/2 {
			r.release(gaps[0])
		}
	}
	r.fill(0, 3)
	r.fill(1, 4)
	return r
}

// places are offsets at the ends of a segment of n pages, at the borders of its pages, and around them.
func places(n int) []int {
	all := []int{-2, -1}
	for k := range n + 1 {
		for d := -2; d <= 2; d++ {
			all = append(all, k*page+d)
		}
		all = append(all, k*page-9, k*page-8, k*page-7, k*page+page/2)
	}
	slices.Sort(all)
	return slices.Compact(all)
}

func TestLimits(t *testing.T) {
	if api.Page != page || api.MaxSeg != limit {
		t.Errorf("a page has %d bytes, a segment at most %d pages", api.Page, api.MaxSeg)
	}
}

func TestExample(t *testing.T) {
	p := frames.New(1)
	var s Seg
	if !s.Resize(p, 1, 1) || s.Put(p, 60, 8, 1) || !s.Put(p, 56, 8, 1) {
		t.Error("a segment of one page ends elsewhere")
	}
	if x, ok := s.Num(p, 63, 1); x != 1 || !ok {
		t.Errorf("its last byte is %d, %v", x, ok)
	}
}

// TestByHand holds calls against bytes and frames that were worked out by hand.
func TestByHand(t *testing.T) {
	p := frames.New(4)
	p.Alloc(50)
	var s Seg
	if !s.Resize(p, 7, 2) || s.Pages() != 2 || s.Size() != 128 || s.Frame(0) != 2 || s.Frame(1) != 3 || p.Left() != 1 || p.Count(7) != 2 {
		t.Fatalf("two pages are %d, in %d and %d", s.Pages(), s.Frame(0), s.Frame(1))
	}
	if !s.Write(p, 62, []byte("glacis")) || string(p.Read(2, 62, 2)) != "gl" || string(p.Read(3, 0, 5)) != "acis\x00" || p.Read(2, 61, 1)[0] != 0 {
		t.Fatalf("frame 2 ends with %q, frame 3 begins with %q", p.Read(2, 61, 3), p.Read(3, 0, 5))
	}
	if b, ok := s.Read(p, 61, 8); !ok || string(b) != "\x00glacis\x00" {
		t.Fatalf("Read is %q, %v", b, ok)
	}
	if x, ok := s.Num(p, 62, 3); x != 0x676c61 || !ok {
		t.Fatalf("Num is %#x, %v", x, ok)
	}
	if !s.Put(p, 63, 2, 0xabcdef) || string(p.Read(2, 62, 2)) != "g\xcd" || string(p.Read(3, 0, 2)) != "\xefc" {
		t.Fatalf("Put leaves %q, %q", p.Read(2, 62, 2), p.Read(3, 0, 2))
	}
	if !s.Copy(p, 60, &s, 62, 5) || string(p.Read(2, 60, 4)) != "g\xcd\xefc" || string(p.Read(3, 0, 4)) != "icis" {
		t.Fatalf("Copy leaves %q, %q", p.Read(2, 60, 4), p.Read(3, 0, 4))
	}
	p.Free(1)
	if !s.Resize(p, 8, 4) || s.Frame(2) != 1 || s.Frame(3) != 4 || p.Count(8) != 2 || p.Count(7) != 2 || p.Left() != 0 {
		t.Fatalf("four pages end in %d and %d", s.Frame(2), s.Frame(3))
	}
	if !s.Resize(p, 9, 1) || s.Pages() != 1 || s.Frame(0) != 2 || p.Owner(2) != 7 || p.Left() != 3 {
		t.Fatalf("one page is %d, in %d", s.Pages(), s.Frame(0))
	}
}

func TestNew(t *testing.T) {
	r := newRig(t, 3, 1)
	r.check("new")
	for _, n := range slices.Concat(extremes, []int{-1, 0, 1, most}) {
		if got := r.segs[0].Frame(n); got != 0 {
			t.Errorf("page %d of a new segment has frame %d", n, got)
		}
		r.read(0, n, 0)
		r.read(0, 0, n)
		r.read(0, n, n)
		r.num(0, n, 1)
		r.put(0, n, 1, 1)
		r.copy(0, n, 0, 0, 0)
		r.copy(0, 0, 0, n, 0)
		r.copy(0, 0, 0, 0, n)
		r.write(0, n, nil)
		r.write(0, n, []byte{})
		r.write(0, n, []byte{1})
	}
	if !r.segs[0].Write(r.p, 0, nil) || !r.segs[0].Copy(r.p, 0, r.segs[0], 0, 0) || r.segs[0].Write(r.p, 1, nil) {
		t.Error("a segment without pages has no empty range at 0, or one at 1")
	}
}

// TestResize goes from each number of pages to each other one.
func TestResize(t *testing.T) {
	for from := range limit + 1 {
		for to := range limit + 1 {
			r := newRig(t, 2*limit+3, 2)
			r.other(90)
			r.resize(1, 20, 2)
			r.fill(1, 1)
			first, second := owners[from%len(owners)], owners[(from+to)%len(owners)]
			if !r.resize(0, first, from) {
				t.Fatalf("a new segment has no %d pages", from)
			}
			r.fill(0, 2)
			before := r.content(0)
			if !r.resize(0, second, to) {
				t.Fatalf("a segment of %d pages gets no %d", from, to)
			}
			kept := min(from, to) * page
			want := append(before[:kept:kept], make([]byte, to*page-kept)...)
			if got, ok := r.segs[0].Read(r.p, 0, to*page); !ok || !slices.Equal(got, want) {
				t.Fatalf("from %d to %d pages it holds %v, not %v", from, to, got, want)
			}
			for k := range to {
				owner := second
				if k < from {
					owner = first
				}
				if got := r.p.Owner(r.segs[0].Frame(k)); got != owner {
					t.Fatalf("from %d to %d pages, page %d is charged to %d, not %d", from, to, k, got, owner)
				}
			}
			if r.p.Left() != 2*limit-to {
				t.Fatalf("with %d pages of %d, %d frames are free", to, from, r.p.Left())
			}
		}
	}
}

// TestResizeRefused goes over numbers of pages, and owners, that may not be.
func TestResizeRefused(t *testing.T) {
	for _, had := range []int{0, 1, 2, limit - 1, limit} {
		r := newRig(t, 2*limit+4, 2)
		r.resize(1, 8, 1)
		r.resize(0, 7, had)
		r.fill(0, 1)
		r.fill(1, 2)
		for _, n := range slices.Concat(extremes, []int{-1, limit + 1, limit + 2, 2 * limit, 2*limit + 1, most}) {
			for _, owner := range []uint64{0, 1, 7, math.MaxUint64} {
				if r.resize(0, owner, n) {
					t.Fatalf("a segment has %d pages", n)
				}
			}
		}
		for n := range limit + 1 {
			if r.resize(0, 0, n) {
				t.Fatalf("from %d to %d pages are charged to nobody", had, n)
			}
		}
		if !r.resize(0, 9, limit) || !r.resize(0, 9, 1) || !r.resize(0, 9, 0) {
			t.Fatal("a segment that was refused something is refused all")
		}
	}
}

// TestResizeFew has just as many frames free as are missing, more, and fewer.
func TestResizeFew(t *testing.T) {
	for from := range limit + 1 {
		for to := range limit + 1 {
			missing := max(0, to-from)
			for _, left := range []int{0, missing - 1, missing, missing + 1} {
				if left < 0 {
					continue
				}
				r := newRig(t, 1+from+left, 1)
				r.other(5)
				r.resize(0, 7, from)
				r.fill(0, 9)
				if got := r.resize(0, 8, to); got != (left >= missing) {
					t.Fatalf("from %d to %d pages with %d frames free: %v", from, to, left, got)
				}
				// What was refused for want of frames is done once they are there.
				r.release(1)
				if got := r.resize(0, 8, to); got != (left+1 >= missing) {
					t.Fatalf("from %d to %d pages with %d frames free and one more: %v", from, to, left, got)
				}
			}
		}
	}
}

// TestResizeFewForTwo: what one segment has, the other one may not have.
func TestResizeFewForTwo(t *testing.T) {
	r := newRig(t, limit+3, 2)
	r.resize(0, 1, limit)
	r.fill(0, 1)
	for n, want := range []bool{true, true, true, true, false, false} {
		if got := r.resize(1, 2, n); got != want {
			t.Fatalf("%d pages beside %d are %v", n, limit, got)
		}
	}
	r.resize(0, 1, limit-1)
	if !r.resize(1, 2, 4) || r.resize(1, 2, 5) || r.resize(0, 1, limit) || r.p.Left() != 0 {
		t.Errorf("%d and %d pages leave %d frames", r.segs[0].Pages(), r.segs[1].Pages(), r.p.Left())
	}
}

// TestResizeZero: pages that are added are all 0, whoever had their frames before.
func TestResizeZero(t *testing.T) {
	r := newRig(t, 6, 2)
	full := slices.Repeat([]byte{255}, 6*page)
	for range 6 {
		r.other(50)
	}
	for f := 1; f <= 6; f++ {
		r.release(f)
	}
	for n := 1; n <= 6; n++ {
		r.resize(0, 1, n)
		if got, ok := r.segs[0].Read(r.p, (n-1)*page, page); !ok || !slices.Equal(got, make([]byte, page)) {
			t.Fatalf("page %d in a frame of somebody else is %v", n, got)
		}
	}
	r.write(0, 0, full)
	r.resize(0, 1, 0)
	r.resize(1, 2, 3)
	r.write(1, 0, full[:3*page])
	r.resize(1, 2, 1)
	r.resize(1, 3, 3)
	if got, ok := r.segs[1].Read(r.p, 0, 3*page); !ok || !slices.Equal(got, append(slices.Clone(full[:page]), make([]byte, 2*page)...)) {
		t.Fatalf("pages in frames that were the segment's are %v", got)
	}
}

// TestResizeKept: the pages that are kept keep everything, in whatever order their frames are.
func TestResizeKept(t *testing.T) {
	r := scattered(t, 7)
	r.fill(0, 12)
	kept := slices.Clone(r.held[0])
	if slices.IsSorted(kept) {
		t.Fatalf("the test's frames are in order: %v", kept)
	}
	before := r.content(0)
	for _, n := range []int{7, 6, 6, 4, 5, 3, 9, 3, 3} {
		if !r.resize(0, 70, n) {
			t.Fatalf("no %d pages", n)
		}
	}
	for k := range 3 {
		if r.segs[0].Frame(k) != kept[k] || r.p.Owner(kept[k]) != 10 {
			t.Errorf("page %d is in %d of %d, not in %d of 10", k, r.segs[0].Frame(k), r.p.Owner(kept[k]), kept[k])
		}
	}
	if got, _ := r.segs[0].Read(r.p, 0, 3*page); !slices.Equal(got, before[:3*page]) {
		t.Errorf("the kept pages hold %v, not %v", got, before[:3*page])
	}
}

// TestResizeWays goes all ways of four Resizes of two segments in a pool that has too few frames for both.
func TestResizeWays(t *testing.T) {
	const calls, sizes = 4, 5
	total := 1
	for range calls {
		total *= 2 * sizes
	}
	for way := range total {
		r := newRig(t, 5, 2)
		for k := range calls {
			r.resize(way%2, uint64(k+1), way/2%sizes)
			r.fill(way%2, uint64(way+k))
			way /= 2 * sizes
		}
	}
}

// TestResizeLeavesCopies: what a copy of a segment's struct tells of its frames isn't written over.
func TestResizeLeavesCopies(t *testing.T) {
	p := frames.New(api.MaxFrames)
	var s Seg
	s.Resize(p, 1, 5)
	for to := range limit + 1 {
		before := s
		var want []int
		for k := range before.Pages() {
			want = append(want, s.Frame(k))
		}
		for _, n := range []int{to / 2, 0, 1, to, limit, 3, to} {
			s.Resize(p, 1, n)
			// A frame that was freed goes to somebody else, so that the segment grows by others than it had.
			p.Alloc(9)
			for k, f := range want {
				if got := before.Frame(k); got != f || before.Pages() != len(want) {
					t.Fatalf("the copy's page %d of %d has frame %d, not %d, behind Resize to %d", k, before.Pages(), got, f, n)
				}
			}
		}
	}
}

func TestFrame(t *testing.T) {
	for n := range limit + 1 {
		r := newRig(t, limit+2, 1)
		r.other(3)
		r.resize(0, 7, n)
		seen := map[int]bool{}
		for k := range n {
			f := r.segs[0].Frame(k)
			if f != k+2 || seen[f] || r.p.Owner(f) != 7 {
				t.Errorf("page %d of %d has frame %d of %d", k, n, f, r.p.Owner(f))
			}
			seen[f] = true
		}
		for _, k := range slices.Concat(extremes, []int{-1, n, n + 1, n + limit, limit, limit + 1, page, most}) {
			if got := r.segs[0].Frame(k); got != 0 {
				t.Errorf("page %d of %d has frame %d", k, n, got)
			}
		}
		r.check("Frame", n)
	}
}

// TestRead goes over all ranges in and around small segments, and over the edges of great ones.
func TestRead(t *testing.T) {
	for n := range 4 {
		r := scattered(t, n)
		for off := -3; off <= n*page+3; off++ {
			for length := -3; length <= n*page+3; length++ {
				r.read(0, off, length)
			}
		}
		r.check("Read", n)
	}
	for _, n := range []int{5, limit - 1, limit} {
		r := scattered(t, n)
		for _, off := range places(n) {
			for _, end := range places(n) {
				r.read(0, off, end-off)
				r.read(1, off, end)
			}
		}
		r.check("Read", n)
	}
}

// TestReadAnswers holds both answers of Read against one another: beside a false there is nothing.
func TestReadAnswers(t *testing.T) {
	r := scattered(t, 2)
	for _, x := range slices.Concat(extremes, []int{-1, 129, 130, 192, most}) {
		for _, y := range slices.Concat(extremes, []int{-1, 0, 1, 63, 64, 65, 127, 128, 129, most}) {
			for _, s := range r.segs {
				if b, ok := s.Read(r.p, x, y); ok || len(b) != 0 {
					t.Fatalf("Read(%d, %d) is %v, %v", x, y, b, ok)
				}
				if b, ok := s.Read(r.p, y, x); ok || len(b) != 0 {
					t.Fatalf("Read(%d, %d) is %v, %v", y, x, b, ok)
				}
			}
		}
	}
	r.check("Read")
}

func TestEmptyRanges(t *testing.T) {
	for _, n := range []int{0, 1, 2, limit} {
		r := scattered(t, n)
		for off := -2; off <= n*page+2; off++ {
			want := 0 <= off && off <= n*page
			b, ok := r.segs[0].Read(r.p, off, 0)
			if ok != want || len(b) != 0 {
				t.Fatalf("Read(%d, 0) of %d pages is %v, %v", off, n, b, ok)
			}
			if r.segs[0].Write(r.p, off, nil) != want || r.segs[0].Write(r.p, off, []byte{}) != want {
				t.Fatalf("Write of nothing at %d of %d pages is not %v", off, n, want)
			}
			if r.segs[0].Copy(r.p, off, r.segs[1], 0, 0) != want || r.segs[1].Copy(r.p, n*page, r.segs[0], off, 0) != want || r.segs[0].Copy(r.p, off, r.segs[0], off, 0) != want {
				t.Fatalf("Copy of nothing at %d of %d pages is not %v", off, n, want)
			}
		}
		for _, off := range slices.Concat(extremes, []int{most}) {
			r.read(0, off, 0)
			r.write(0, off, nil)
			r.copy(0, off, 1, 0, 0)
			r.copy(0, 0, 1, off, 0)
		}
		r.check("nothing", n)
	}
}

// TestWrite goes over all ranges in and around small segments, and over the edges of great ones.
func TestWrite(t *testing.T) {
	for n := range 3 {
		r := scattered(t, n)
		for off := -3; off <= n*page+3; off++ {
			for length := range n*page + 4 {
				r.write(0, off, pattern(uint64(off*1000+length), length))
			}
		}
	}
	for _, n := range []int{3, limit} {
		r := scattered(t, n)
		for i, off := range places(n) {
			for _, end := range places(n) {
				if i%3 == 0 && end >= off {
					r.write(1, off, pattern(uint64(off*1000+end), end-off))
				}
			}
		}
	}
}

// TestWriteRefused: of bytes that don't all lie within, none is written.
func TestWriteRefused(t *testing.T) {
	for _, n := range []int{0, 1, 2, 3} {
		r := scattered(t, n)
		for _, off := range slices.Concat(extremes, []int{-1, n*page + 1, most}) {
			for _, length := range []int{0, 1, 2, 7, 8, 9, page - 1, page, page + 1, n * page, n*page + 1, limit * page, 1 << 16} {
				r.write(0, off, slices.Repeat([]byte{99}, length))
			}
		}
		for off := range n*page + 1 {
			for _, more := range []int{1, 2, page, limit * page} {
				if r.segs[0].Write(r.p, off, slices.Repeat([]byte{99}, n*page-off+more)) {
					t.Fatalf("%d bytes behind the end of %d pages are written", more, n)
				}
			}
			r.check("Write", n, off)
		}
	}
}

// TestOrder writes out the bytes of each width.
func TestOrder(t *testing.T) {
	const x = 0x0123456789abcdef
	eight := []byte{0x01, 0x23, 0x45, 0x67, 0x89, 0xab, 0xcd, 0xef}
	for _, off := range []int{0, 1, page - 8, page - 7, page - 4, page - 1, page, 2*page - 8} {
		for width := 1; width <= 8; width++ {
			if off+width > 2*page {
				continue
			}
			p := frames.New(3)
			var s Seg
			s.Resize(p, 1, 2)
			s.Write(p, 0, slices.Repeat([]byte{0x77}, 2*page))
			want := slices.Repeat([]byte{0x77}, 2*page)
			copy(want[off:], eight[8-width:])
			if !s.Put(p, off, width, x) {
				t.Fatalf("Put of %d bytes at %d is refused", width, off)
			}
			if got, _ := s.Read(p, 0, 2*page); !slices.Equal(got, want) {
				t.Fatalf("Put of %d bytes at %d makes %v", width, off, got)
			}
			lowest := uint64(x) << (64 - 8*width) >> (64 - 8*width)
			if got, ok := s.Num(p, off, width); !ok || got != lowest {
				t.Fatalf("Num of %d bytes at %d is %#x, %v, not %#x", width, off, got, ok, lowest)
			}
		}
	}
}

func TestNum(t *testing.T) {
	for _, n := range []int{0, 1, 2, 3, limit} {
		r := scattered(t, n)
		for off := -10; off <= n*page+10; off++ {
			for width := -2; width <= 10; width++ {
				r.num(0, off, width)
				r.num(1, off, width)
			}
			for _, width := range slices.Concat(extremes, []int{16, page, most}) {
				r.num(0, off, width)
			}
		}
		for _, off := range slices.Concat(extremes, []int{most}) {
			for width := -2; width <= 10; width++ {
				r.num(0, off, width)
			}
			r.num(0, off, off)
		}
		r.check("Num", n)
	}
}

func TestPut(t *testing.T) {
	numbers := []uint64{0, 1, 255, 256, 1 << 32, 0x0102030405060708, 0xfedcba9876543210, 1 << 63, math.MaxUint64}
	for _, n := range []int{0, 1, 2, 3} {
		r := scattered(t, n)
		for _, off := range slices.Concat(places(n), extremes, []int{most}) {
			for width := -2; width <= 10; width++ {
				for _, x := range numbers {
					r.put(0, off, width, x)
				}
				r.fill(0, uint64(off+width))
			}
			for _, width := range slices.Concat(extremes, []int{16, page, most}) {
				r.put(0, off, width, math.MaxUint64)
			}
		}
	}
}

// TestPutWidths: no number has 0, 9, -1 or very many bytes, though so many would lie within.
func TestPutWidths(t *testing.T) {
	r := scattered(t, 2)
	for _, width := range slices.Concat(extremes, []int{-1, 0, 9, 10, 16, page, 2 * page, most}) {
		for _, off := range []int{0, 1, 60, 64, 119, 120, 127, 128} {
			if r.segs[0].Put(r.p, off, width, 5) {
				t.Errorf("a number of %d bytes is put at %d", width, off)
			}
			if x, ok := r.segs[0].Num(r.p, off, width); ok || x != 0 {
				t.Errorf("the number of %d bytes at %d is %d, %v", width, off, x, ok)
			}
		}
	}
	r.check("Put of no number")
}

// TestCopy goes over the edges of both ranges, in one segment and from one to the other.
func TestCopy(t *testing.T) {
	for _, n := range []int{0, 1, 2} {
		r := scattered(t, n)
		lengths := []int{-1, 0, 1, 2, 8, page - 1, page, page + 1, 2*page - 1, 2 * page, 2*page + 1}
		for _, off := range places(n) {
			for _, at := range places(n) {
				for _, length := range lengths {
					r.copy(0, off, 0, at, length)
					r.copy(0, off, 1, at, length)
				}
				r.fill(0, uint64(off*1000+at))
			}
		}
	}
}

// TestCopyOverlap moves bytes of great segments by little and by much, either way.
func TestCopyOverlap(t *testing.T) {
	for _, n := range []int{3, limit} {
		r := scattered(t, n)
		for _, by := range []int{1, 2, 7, 8, 31, 63, 64, 65, 100, 127, 128, 129, 180} {
			for _, off := range []int{0, 1, 5, 63, 64, 65} {
				length := n*page - by - off
				if length < 0 {
					continue
				}
				for _, d := range []int{0, 1, 17, 64} {
					r.fill(0, uint64(by*1000+off))
					before := r.content(0)
					end := length - d
					if end < 0 {
						continue
					}
					r.copy(0, off, 0, off+by, end)
					if got, _ := r.segs[0].Read(r.p, off, end); !slices.Equal(got, before[off+by:off+by+end]) {
						t.Fatalf("%d bytes moved down by %d to %d are %v", end, by, off, got)
					}
					r.fill(0, uint64(by*1000+off))
					r.copy(0, off+by, 0, off, end)
					if got, _ := r.segs[0].Read(r.p, off+by, end); !slices.Equal(got, before[off:off+end]) {
						t.Fatalf("%d bytes moved up by %d from %d are %v", end, by, off, got)
					}
				}
			}
		}
	}
}

// TestCopyRefused: where either range doesn't lie within its segment, nothing is copied.
func TestCopyRefused(t *testing.T) {
	// The segments differ in size, so that the one's end isn't the other's.
	r := newRig(t, 8, 3)
	r.resize(0, 1, 2)
	r.resize(1, 2, 3)
	r.fill(0, 1)
	r.fill(1, 2)
	for _, x := range slices.Concat(extremes, []int{-1, 193, most}) {
		for _, y := range slices.Concat(extremes, []int{-1, 0, 1, 64, 127, 128, 129, 192, most}) {
			for _, c := range [][3]int{{x, y, 0}, {y, x, 0}, {x, y, 1}, {y, x, 1}, {0, y, x}, {y, 0, x}, {x, 0, y}, {0, x, y}, {x, x, x}} {
				for i := range 3 {
					for from := range 3 {
						r.copy(i, c[0], from, c[1], c[2])
					}
				}
			}
		}
	}
	for _, c := range []struct {
		off, at, n int
		want       bool
	}{{0, 0, 128, true}, {0, 64, 128, true}, {0, 65, 128, false}, {1, 0, 128, false}, {0, 0, 129, false}, {127, 191, 1, true}, {128, 191, 1, false}, {127, 192, 1, false}, {128, 192, 0, true}, {129, 192, 0, false}, {128, 193, 0, false}} {
		if got := r.segs[0].Copy(r.p, c.off, r.segs[1], c.at, c.n); got != c.want {
			t.Errorf("Copy to %d of %d bytes at %d is %v", c.off, c.n, c.at, got)
		}
	}
}

// TestReadShares: what Read answers has nothing in common with the segment, nor with another answer.
func TestReadShares(t *testing.T) {
	r := scattered(t, 3)
	for _, c := range [][2]int{{0, 3 * page}, {0, page}, {page, page}, {4, 8}, {60, 8}, {60, 80}, {0, 0}, {2 * page, page}} {
		off, n := c[0], c[1]
		want := slices.Clone(r.content(0)[off : off+n])
		a, _ := r.segs[0].Read(r.p, off, n)
		b, _ := r.segs[0].Read(r.p, off, n)
		long := append(a, 1, 2, 3, 4, 5, 6, 7, 8, 9)
		clear(a)
		clear(long)
		clear(a[:cap(a)])
		r.check("Read's answer changed", off, n)
		if !slices.Equal(b, want) {
			t.Fatalf("two answers of Read(%d, %d) share memory", off, n)
		}
		r.write(0, off, make([]byte, n))
		r.resize(0, 5, 0)
		if !slices.Equal(b, want) {
			t.Fatalf("what Read(%d, %d) answered is changed by what came later", off, n)
		}
		r.resize(0, 5, 3)
		r.fill(0, uint64(off))
	}
}

// TestWriteShares: the bytes handed to Write are neither kept nor changed, nor is what lies around them.
func TestWriteShares(t *testing.T) {
	for _, off := range []int{0, 1, 60, page, 100} {
		for _, n := range []int{0, 1, 8, 27, page, page + 1, 92} {
			r := scattered(t, 3)
			whole := pattern(77, 2*page+n)
			given := slices.Clone(whole)
			b := whole[page : page+n]
			r.write(0, off, b)
			if !slices.Equal(whole, given) {
				t.Fatalf("Write of %d bytes at %d changes what lies around them", n, off)
			}
			clear(whole)
			r.check("the bytes handed to Write changed", off, n)
			r.write(0, off, make([]byte, n))
			r.fill(0, 9)
			if !slices.Equal(whole, make([]byte, len(whole))) {
				t.Fatalf("Write at %d keeps %d bytes that it was handed", off, n)
			}
		}
	}
}

// TestApart: two segments of one pool, and two pools, have nothing to do with one another.
func TestApart(t *testing.T) {
	r := scattered(t, 4)
	other := r.content(1)
	frame := slices.Clone(r.held[1])
	r.fill(0, 50)
	r.put(0, 60, 8, math.MaxUint64)
	r.copy(0, 3, 0, 70, 120)
	r.resize(0, 77, 1)
	r.resize(0, 78, 5)
	r.resize(0, 78, 0)
	if got, ok := r.segs[1].Read(r.p, 0, 4*page); !ok || !slices.Equal(got, other) || !slices.Equal(r.held[1], frame) {
		t.Fatalf("the other segment holds %v in %v", got, r.held[1])
	}
	a, b := newRig(t, 4, 1), newRig(t, 4, 1)
	a.resize(0, 1, 3)
	b.resize(0, 1, 3)
	a.fill(0, 1)
	b.check("the other pool's segment was filled")
	b.fill(0, 2)
	a.check("the other pool's segment was filled")
	a.resize(0, 1, 0)
	b.check("the other pool's segment has no pages")
}

// TestLongWay is a long way of all calls, on three segments that hardly have room in their pool.
func TestLongWay(t *testing.T) {
	r := newRig(t, 24, 3)
	r.other(99)
	x := uint64(7)
	next := func(n int) int {
		x = x*6364136223846793005 + 1442695040888963407
		return int(x >> 33 % uint64(n))
	}
	for range 30000 {
		i := next(3)
		size := len(r.held[i]) * page
		off, n := next(size+20)-9, next(next(size+10)+2)-1
		switch next(7) {
		case 0:
			if next(4) == 0 {
				r.resize(i, uint64(next(9)), next(limit+3)-1)
			}
		case 1:
			r.read(i, off, n)
		case 2:
			r.write(i, off, pattern(x, max(0, n)))
		case 3:
			r.num(i, off, next(11)-1)
		case 4:
			r.put(i, off, next(11)-1, x)
		case 5:
			from := next(3)
			r.copy(i, off, from, next(len(r.held[from])*page+20)-9, n)
		case 6:
			r.copy(i, off, i, off+next(9)-4, n)
		}
	}
	r.check("a long way")
}

// TestNil asks everything of a segment that there is not.
func TestNil(t *testing.T) {
	r := newRig(t, 5, 1)
	r.resize(0, 1, 2)
	r.fill(0, 1)
	var none *Seg
	numbers := slices.Concat(extremes, []int{-1, 0, 1, 2, 8, limit, page, most})
	for _, p := range []*frames.Pool{r.p, nil} {
		if none.Pages() != 0 || none.Size() != 0 {
			t.Errorf("no segment has %d pages, %d bytes", none.Pages(), none.Size())
		}
		for _, x := range numbers {
			if none.Frame(x) != 0 || none.Resize(p, 1, x) || none.Resize(p, 0, x) {
				t.Errorf("no segment has page %d, or gets so many", x)
			}
			if none.Write(p, x, nil) || none.Write(p, x, []byte{}) || none.Write(p, x, []byte{1}) {
				t.Errorf("something is written to no segment at %d", x)
			}
			for _, y := range numbers {
				b, read := none.Read(p, x, y)
				n, is := none.Num(p, x, y)
				if len(b) != 0 || read || n != 0 || is || none.Put(p, x, y, 1) {
					t.Errorf("no segment has %d bytes at %d", y, x)
				}
				if none.Copy(p, x, r.segs[0], 0, y) || none.Copy(p, x, none, x, y) || none.Copy(p, 0, r.segs[0], x, y) || r.segs[0].Copy(p, x, none, 0, y) || r.segs[0].Copy(p, 0, none, x, y) {
					t.Errorf("%d bytes are copied from or to no segment, with %d", y, x)
				}
			}
		}
	}
	r.check("nothing was asked of it")
}

// TestNilPool: a pool that there is not has no frames, and makes nothing panic.
func TestNilPool(t *testing.T) {
	var s Seg
	for n := 1; n <= limit; n++ {
		if s.Resize(nil, 1, n) || s.Pages() != 0 {
			t.Errorf("%d pages come from no pool", n)
		}
	}
	if !s.Resize(nil, 1, 0) || s.Resize(nil, 0, 0) || s.Resize(nil, 1, -1) || s.Resize(nil, 1, limit+1) {
		t.Error("a segment without pages gets none from no pool, or other numbers of them")
	}
	if b, ok := s.Read(nil, 0, 0); len(b) != 0 || !ok || !s.Write(nil, 0, nil) || s.Write(nil, 0, []byte{1}) || !s.Copy(nil, 0, &s, 0, 0) {
		t.Error("a segment without pages has no empty range")
	}
	r := scattered(t, 3)
	full := r.segs[0]
	for _, x := range slices.Concat(extremes, places(3), []int{most}) {
		for _, n := range []int{-1, 1, 2, 8, page, page + 1, 3 * page, most} {
			if b, ok := full.Read(nil, x, n); len(b) != 0 || ok {
				t.Errorf("Read(nil, %d, %d) is %v, %v", x, n, b, ok)
			}
			if y, ok := full.Num(nil, x, n); y != 0 || ok || full.Put(nil, x, n, 5) || full.Copy(nil, x, r.segs[1], 0, n) || full.Copy(nil, 0, full, x, n) {
				t.Errorf("%d bytes at %d are there without a pool", n, x)
			}
			full.Frame(x)
		}
		if full.Write(nil, x, []byte{1, 2, 3}) {
			t.Errorf("bytes are written at %d without a pool", x)
		}
	}
	for _, n := range slices.Concat(extremes, []int{-1, 4, 5, limit, limit + 1, most}) {
		if full.Resize(nil, 1, n) {
			t.Errorf("three pages become %d without a pool", n)
		}
	}
	r.check("no pool was asked")
}
