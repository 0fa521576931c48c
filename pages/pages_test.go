package pages

import (
	"bytes"
	"encoding/binary"
	"maps"
	"math"
	"slices"
	"testing"

	"glacis/api"
	"glacis/frames"
)

// extremes are numbers that no page, no root and no count has, or that a sum or a shift takes round.
var extremes = []int{math.MinInt, math.MinInt + 1, math.MinInt32, -4097, -4096, -4095, -64, -2, -1, 1 << 16, 1 << 32, 1<<32 + 1, 1 << 56, math.MaxInt32, math.MaxInt - 1, math.MaxInt}

// noPages are numbers that are no page.
var noPages = append([]int{Count, Count + 1, 2 * Count}, extremes...)

// noFrames are numbers that no page may be mapped to.
var noFrames = []int{0, -1, -2, -256, math.MinInt32, math.MinInt + 1, math.MinInt}

// edges are pages at the ends of their range, of an eight, of 64 and of 512.
var edges = []int{0, 1, 7, 8, 9, 56, 63, 64, 65, 504, 511, 512, 513, 1023, 1024, 2047, 2048, 3583, 3584, 4031, 4032, 4087, 4088, 4094, 4095}

// A mapping is what a page leads to.
type mapping struct {
	frame int
	may   bool
}

// A model is what a root should hold: the mapped pages, and the tables below it by level and by the bits that lead to them.
type model struct {
	pages  map[int]mapping
	tables map[[2]int]bool
}

func newModel() *model {
	return &model{pages: map[int]mapping{}, tables: map[[2]int]bool{}}
}

// path is the tables below the root that lead to a page: they hold 512, 64 and 8 pages.
func path(page int) [][2]int {
	return [][2]int{{1, page / 512}, {2, page / 64}, {3, page / 8}}
}

// missing is how many tables a page needs that aren't there.
func (m *model) missing(page int) int {
	n := 0
	for _, table := range path(page) {
		if !m.tables[table] {
			n++
		}
	}
	return n
}

// fill is the chapter's Fill of a valid page and frame, where there is enough of everything.
func (m *model) fill(page, frame int, may bool) int {
	n := m.missing(page)
	for _, table := range path(page) {
		m.tables[table] = true
	}
	m.pages[page] = mapping{frame, may}
	return n
}

// wipe is the chapter's Wipe.
func (m *model) wipe(frame int) int {
	before := len(m.pages)
	maps.DeleteFunc(m.pages, func(_ int, to mapping) bool { return to.frame == frame })
	return before - len(m.pages)
}

// drop is the chapter's Drop.
func (m *model) drop() int {
	n := len(m.tables)
	clear(m.pages)
	clear(m.tables)
	return n
}

// ascending is the mapped pages in order.
func (m *model) ascending() []int { return slices.Sorted(maps.Keys(m.pages)) }

// A step is what Each yields once.
type step struct{ page, frame int }

// each is all that Each yields.
func each(p *frames.Pool, root int) []step {
	var all []step
	for page, frame := range Each(p, root) {
		all = append(all, step{page, frame})
	}
	return all
}

// check holds a root against its model: every page where all is true, otherwise the mapped ones, the edges and their neighbours.
func check(t *testing.T, what string, p *frames.Pool, root int, m *model, all bool) {
	t.Helper()
	var want []step
	asked := slices.Clone(edges)
	for _, page := range m.ascending() {
		want = append(want, step{page, m.pages[page].frame})
		asked = append(asked, page-1, page, page+1)
	}
	if got := each(p, root); !slices.Equal(got, want) {
		t.Fatalf("%s: Each is %v, not %v", what, got, want)
	}
	if all {
		asked = nil
		for page := -2; page <= Count+1; page++ {
			asked = append(asked, page)
		}
	}
	for _, page := range asked {
		checkWalk(t, what, p, root, page, m)
	}
}

// checkWalk holds one page against the model.
func checkWalk(t *testing.T, what string, p *frames.Pool, root, page int, m *model) {
	t.Helper()
	want, mapped := m.pages[page]
	frame, may, ok := Walk(p, root, page)
	if frame != want.frame || may != want.may || ok != mapped {
		t.Fatalf("%s: Walk(%d) is %d, %v, %v, not %v, %v", what, page, frame, may, ok, want, mapped)
	}
}

// A picture is all of a pool: the owners and the bytes of its frames.
type picture struct {
	owners []uint64
	data   [][]byte
}

func look(p *frames.Pool) picture {
	var all picture
	for f := 1; f <= p.Len(); f++ {
		all.owners = append(all.owners, p.Owner(f))
		all.data = append(all.data, p.Read(f, 0, api.Page))
	}
	return all
}

func (a picture) same(b picture) bool {
	return slices.Equal(a.owners, b.owners) && slices.EqualFunc(a.data, b.data, bytes.Equal)
}

// rooted is a pool of n frames whose first is an empty root, charged to 1.
func rooted(t *testing.T, n int) (*frames.Pool, int) {
	t.Helper()
	p := frames.New(n)
	root := p.Alloc(1)
	if root != 1 {
		t.Fatalf("the root is %d", root)
	}
	return p, root
}

// mustFill fills a page that must be filled, with a charge of so many tables.
func mustFill(t *testing.T, p *frames.Pool, root, page, frame int, may bool, tables int) {
	t.Helper()
	if n, ok := Fill(p, root, page, frame, may, 1, 3); n != tables || !ok {
		t.Fatalf("Fill of page %d is %d, %v, not %d, true", page, n, ok, tables)
	}
}

// mustRefuse asks for a page that must not be filled, and holds the pool against what it was.
func mustRefuse(t *testing.T, what string, p *frames.Pool, root, page, frame int, owner uint64, most int) {
	t.Helper()
	before := look(p)
	if n, ok := Fill(p, root, page, frame, true, owner, most); n != 0 || ok {
		t.Fatalf("%s: Fill(%d, %d, %d, owner %d, most %d) is %d, %v", what, root, page, frame, owner, most, n, ok)
	}
	if !before.same(look(p)) {
		t.Fatalf("%s: Fill(%d, %d, %d, owner %d, most %d) changes the pool", what, root, page, frame, owner, most)
	}
}

func TestConstants(t *testing.T) {
	if Levels != 4 || Bits != 3 || Count != 4096 || Count*api.Page != api.Space {
		t.Errorf("Levels %d, Bits %d, Count %d", Levels, Bits, Count)
	}
}

func TestEmptyRoot(t *testing.T) {
	p, root := rooted(t, 5)
	check(t, "empty", p, root, newModel(), true)
	before := look(p)
	if n := Drop(p, root); n != 0 {
		t.Errorf("Drop of an empty root is %d", n)
	}
	for _, frame := range append([]int{0, 1, 2}, extremes...) {
		if n := Wipe(p, root, frame); n != 0 {
			t.Errorf("Wipe(%d) of an empty root is %d", frame, n)
		}
	}
	if !before.same(look(p)) {
		t.Error("an empty root has changed")
	}
}

func TestExample(t *testing.T) {
	p, root := rooted(t, 10)
	mustFill(t, p, root, 16, 5, true, 3)
	if p.Count(1) != 4 || p.Left() != 6 {
		t.Errorf("%d frames are charged, %d are left", p.Count(1), p.Left())
	}
	mustFill(t, p, root, 17, 6, true, 0)
	if p.Count(1) != 4 || p.Left() != 6 {
		t.Errorf("%d frames are charged, %d are left", p.Count(1), p.Left())
	}
}

// TestEdgesOfPages fills each page alone, and asks for it, its neighbours and what is none.
func TestEdgesOfPages(t *testing.T) {
	for _, page := range edges {
		for _, may := range []bool{true, false} {
			// Enough is left for three more tables, so that a number that is no page is refused for itself.
			p, root := rooted(t, 9)
			m := newModel()
			mustFill(t, p, root, page, 5, may, m.fill(page, 5, may))
			check(t, "one page", p, root, m, false)
			for _, none := range noPages {
				checkWalk(t, "no page", p, root, none, m)
				mustRefuse(t, "no page", p, root, none, 5, 1, 3)
			}
		}
	}
}

func TestEveryPageAlone(t *testing.T) {
	p, root := rooted(t, 4)
	for page := range Count {
		mustFill(t, p, root, page, page+1, page%3 == 0, 3)
		if got := each(p, root); !slices.Equal(got, []step{{page, page + 1}}) {
			t.Fatalf("Each of page %d is %v", page, got)
		}
		if frame, may, ok := Walk(p, root, page); frame != page+1 || may != (page%3 == 0) || !ok {
			t.Fatalf("Walk(%d) is %d, %v, %v", page, frame, may, ok)
		}
		if n := Drop(p, root); n != 3 {
			t.Fatalf("Drop of page %d is %d", page, n)
		}
	}
}

func TestFrames(t *testing.T) {
	// What an entry can hold, whether the pool has such a frame or not.
	for _, frame := range []int{1, 2, 3, 9, 255, 256, 4095, 4096, 4097, 1 << 16, 1<<32 - 1, 1 << 32, 1<<55 + 1, 1<<56 - 1} {
		p, root := rooted(t, 10)
		m := newModel()
		for _, page := range []int{0, 1000, 1001, 4095} {
			mustFill(t, p, root, page, frame, page%2 == 0, m.fill(page, frame, page%2 == 0))
			check(t, "frame", p, root, m, false)
		}
	}
	p, root := rooted(t, 9)
	for _, page := range []int{0, 100, 4095} {
		for _, frame := range noFrames {
			mustRefuse(t, "no frame", p, root, page, frame, 1, 3)
		}
	}
	mustFill(t, p, root, 100, 7, true, 3)
	for _, frame := range noFrames {
		mustRefuse(t, "no frame", p, root, 100, frame, 1, 3)
		mustRefuse(t, "no frame", p, root, 101, frame, 1, 3)
	}
	check(t, "no frame", p, root, &model{pages: map[int]mapping{100: {7, true}}}, false)
}

// TestFramesTooGreat: an entry has 56 bits for a frame, so a greater one can't be mapped as it is, and another must not be mapped for it.
func TestFramesTooGreat(t *testing.T) {
	p, root := rooted(t, 9)
	mustFill(t, p, root, 5, 7, false, 3)
	for _, frame := range []int{1 << 56, 1<<56 + 1, 1 << 57, 1 << 62, math.MaxInt - 1, math.MaxInt} {
		mustRefuse(t, "too great", p, root, 5, frame, 1, 3)
		mustRefuse(t, "too great", p, root, 6, frame, 1, 3)
	}
}

func TestNoRoots(t *testing.T) {
	p, root := rooted(t, 12)
	mustFill(t, p, root, 77, 9, true, 3)
	p.Alloc(1)
	gone := p.Alloc(1)
	p.Free(gone)
	// Enough is left for three tables, so that a number that is no root is refused for itself.
	if p.Left() < 3 {
		t.Fatalf("%d frames are left", p.Left())
	}
	for _, none := range append([]int{0, gone, 12, 13, 14, api.MaxFrames, api.MaxFrames + 1}, extremes...) {
		checkNoRoot(t, p, none)
	}
}

// checkNoRoot holds a number that is no root against what it must answer.
func checkNoRoot(t *testing.T, p *frames.Pool, root int) {
	t.Helper()
	before := look(p)
	for _, page := range append(slices.Clone(edges), noPages...) {
		if frame, may, ok := Walk(p, root, page); frame != 0 || may || ok {
			t.Fatalf("Walk(%d, %d) is %d, %v, %v", root, page, frame, may, ok)
		}
		if n, ok := Fill(p, root, page, 3, true, 1, math.MaxInt); n != 0 || ok {
			t.Fatalf("Fill(%d, %d) is %d, %v", root, page, n, ok)
		}
	}
	if got := each(p, root); got != nil {
		t.Fatalf("Each(%d) is %v", root, got)
	}
	if n := Drop(p, root); n != 0 {
		t.Fatalf("Drop(%d) is %d", root, n)
	}
	for _, frame := range []int{-1, 0, 1, 9, math.MaxInt} {
		if n := Wipe(p, root, frame); n != 0 {
			t.Fatalf("Wipe(%d, %d) is %d", root, frame, n)
		}
	}
	if !before.same(look(p)) {
		t.Fatalf("the root %d, which is none, changes the pool", root)
	}
}

func TestNilPool(t *testing.T) {
	for _, root := range append([]int{0, 1, 2, api.MaxFrames}, extremes...) {
		checkNoRoot(t, nil, root)
	}
}

func TestMappedAgain(t *testing.T) {
	p, root := rooted(t, 12)
	m := newModel()
	for _, page := range []int{0, 1, 63, 2000, 4095} {
		mustFill(t, p, root, page, 4, false, m.fill(page, 4, false))
	}
	left := p.Left()
	for _, to := range []mapping{{4, true}, {4, false}, {5, false}, {1 << 40, true}, {6, false}, {6, false}, {3, true}} {
		for _, page := range []int{0, 63, 4095} {
			mustFill(t, p, root, page, to.frame, to.may, 0)
			m.fill(page, to.frame, to.may)
			check(t, "mapped again", p, root, m, false)
		}
	}
	if p.Left() != left {
		t.Errorf("mapping again charges %d frames", left-p.Left())
	}
}

func TestTablesNeeded(t *testing.T) {
	p, root := rooted(t, 30)
	for _, c := range []struct{ page, tables int }{
		{1000, 3}, // the first of all: of its 512, its 64, its eight
		{1001, 0}, {1007, 0}, {1000, 0},
		{999, 1}, {992, 0}, // of its eight
		{1008, 1},
		{1023, 1},          // of its eight, the last one of its 64, of its 512
		{959, 2}, {952, 0}, // of its 64
		{512, 2}, {519, 0}, {520, 1},
		{511, 3}, {504, 0}, // of its 512
		{1024, 3},
		{0, 2}, {7, 0}, {8, 1},
		{4095, 3}, {4088, 0}, {4087, 1}, {4031, 2}, {3583, 3},
	} {
		left := p.Left()
		mustFill(t, p, root, c.page, 7, true, c.tables)
		if left-p.Left() != c.tables {
			t.Fatalf("page %d charges %d tables, not %d", c.page, left-p.Left(), c.tables)
		}
	}
}

func TestOwnersOfTables(t *testing.T) {
	p, root := rooted(t, 20)
	for _, c := range []struct {
		page  int
		owner uint64
		count int
	}{{0, 7, 3}, {8, math.MaxUint64, 1}, {16, 7, 4}, {17, 8, 0}, {64, 1 << 63, 2}, {4095, 8, 3}} {
		if _, ok := Fill(p, root, c.page, 9, true, c.owner, 3); !ok || p.Count(c.owner) != c.count {
			t.Fatalf("Fill of page %d: %v, its owner has %d frames, not %d", c.page, ok, p.Count(c.owner), c.count)
		}
	}
	if p.Count(1) != 1 || p.Owner(root) != 1 {
		t.Errorf("the root's owner has %d frames", p.Count(1))
	}
}

// TestFewerAllowed asks for pages that need 3, 2, 1 and 0 tables, and allows up to one fewer.
func TestFewerAllowed(t *testing.T) {
	for page, tables := range map[int]int{600: 3, 64: 2, 8: 1, 1: 0, 0: 0} {
		for _, most := range []int{math.MinInt, math.MinInt32, -1, 0, 1, 2, 3, 4, math.MaxInt32, math.MaxInt} {
			p, root := rooted(t, 12)
			mustFill(t, p, root, 0, 9, true, 3)
			if most < tables {
				mustRefuse(t, "fewer allowed", p, root, page, 10, 5, most)
				continue
			}
			if n, ok := Fill(p, root, page, 10, true, 5, most); n != tables || !ok || p.Count(5) != tables {
				t.Fatalf("Fill of page %d with %d allowed is %d, %v", page, most, n, ok)
			}
		}
	}
}

// TestFewerFree asks for pages that need 3, 2, 1 and 0 tables, in pools that have up to four frames left.
func TestFewerFree(t *testing.T) {
	for page, tables := range map[int]int{600: 3, 64: 2, 8: 1, 1: 0, 0: 0} {
		for left := range 5 {
			p, root := rooted(t, 4+left)
			mustFill(t, p, root, 0, 9, true, 3)
			if left < tables {
				mustRefuse(t, "fewer free", p, root, page, 10, 5, 3)
				mustRefuse(t, "fewer free", p, root, page, 10, 5, math.MaxInt)
				continue
			}
			if n, ok := Fill(p, root, page, 10, true, 5, math.MaxInt); n != tables || !ok || p.Left() != left-tables {
				t.Fatalf("Fill of page %d with %d free is %d, %v", page, left, n, ok)
			}
		}
	}
}

func TestNobody(t *testing.T) {
	p, root := rooted(t, 12)
	mustRefuse(t, "owner 0", p, root, 0, 9, 0, 3)
	mustFill(t, p, root, 0, 9, true, 3)
	for _, page := range []int{8, 64, 512, 4095} {
		for _, most := range []int{0, 1, 3, math.MaxInt} {
			mustRefuse(t, "owner 0", p, root, page, 9, 0, most)
		}
	}
	// Where no table is missing, nothing has to be charged to anybody.
	before := p.Left()
	for _, page := range []int{0, 1, 7} {
		if n, ok := Fill(p, root, page, 11, false, 0, 0); n != 0 || !ok || p.Left() != before {
			t.Fatalf("Fill of page %d for owner 0 is %d, %v", page, n, ok)
		}
		checkWalk(t, "owner 0", p, root, page, &model{pages: map[int]mapping{page: {11, false}}})
	}
}

// spread is a pool whose root has pages all over, put in out of order, and its model.
func spread(t *testing.T) (*frames.Pool, int, *model) {
	t.Helper()
	p, root := rooted(t, 60)
	m := newModel()
	for i, page := range []int{4095, 511, 0, 8, 2049, 1, 3000, 7, 64, 63, 512, 4088, 2048, 1024} {
		frame := []int{5, 900, 5, 6}[i%4]
		mustFill(t, p, root, page, frame, i%3 == 0, m.fill(page, frame, i%3 == 0))
	}
	return p, root, m
}

func TestEachAscending(t *testing.T) {
	p, root, m := spread(t)
	before := look(p)
	check(t, "spread", p, root, m, true)
	check(t, "spread again", p, root, m, false)
	if !before.same(look(p)) {
		t.Error("Each or Walk changes the pool")
	}
	over := Each(p, root)
	for range 2 {
		var got []int
		for page := range over {
			got = append(got, page)
		}
		if !slices.Equal(got, m.ascending()) {
			t.Fatalf("Each is %v, not %v", got, m.ascending())
		}
	}
}

func TestEachStops(t *testing.T) {
	p, root, m := spread(t)
	want := m.ascending()
	for stop := 1; stop <= len(want); stop++ {
		var got []int
		Each(p, root)(func(page, frame int) bool {
			got = append(got, page)
			return len(got) < stop
		})
		if !slices.Equal(got, want[:stop]) {
			t.Fatalf("stopped at %d, Each is %v", stop, got)
		}
	}
	Each(p, root)(nil)
}

func TestDrop(t *testing.T) {
	p, root, m := spread(t)
	charged := p.Count(1)
	if charged != len(m.tables)+1 {
		t.Fatalf("%d frames are charged for %d tables", charged, len(m.tables))
	}
	if n := Drop(p, root); n != charged-1 {
		t.Fatalf("Drop is %d, not %d", n, charged-1)
	}
	if p.Count(1) != 1 || p.Owner(root) != 1 || p.Left() != p.Len()-1 {
		t.Fatalf("%d frames are charged behind Drop, the root's owner is %d", p.Count(1), p.Owner(root))
	}
	if !bytes.Equal(p.Read(root, 0, api.Page), make([]byte, api.Page)) {
		t.Errorf("the root holds %v", p.Read(root, 0, api.Page))
	}
	check(t, "dropped", p, root, newModel(), true)
	if n := Drop(p, root); n != 0 {
		t.Errorf("Drop again is %d", n)
	}
}

// TestDropAndUse fills and drops one root, in a pool that has just the tables for it, and again, and for somebody else.
func TestDropAndUse(t *testing.T) {
	p, root := rooted(t, 5)
	for i, page := range []int{0, 4095, 511, 512, 0, 63} {
		owner := uint64(20 + i)
		n, ok := Fill(p, root, page, 3, true, owner, 3)
		if n != 3 || !ok || p.Count(owner) != 3 {
			t.Fatalf("Fill of page %d is %d, %v", page, n, ok)
		}
		check(t, "filled anew", p, root, &model{pages: map[int]mapping{page: {3, true}}}, false)
		if n := Drop(p, root); n != 3 || p.Count(owner) != 0 {
			t.Fatalf("Drop of page %d is %d", page, n)
		}
	}
	if p.Alloc(2) != 2 || p.Alloc(2) != 3 || p.Alloc(2) != 4 || p.Alloc(2) != 5 {
		t.Error("dropped tables aren't free")
	}
}

// TestDropLeaves: the frames that pages lead to aren't tables, and stay charged, as does what somebody else has.
func TestDropLeaves(t *testing.T) {
	p, root := rooted(t, 12)
	mine, other := p.Alloc(1), p.Alloc(2)
	p.Write(mine, 0, bytes.Repeat([]byte{255}, api.Page))
	p.Write(other, 0, bytes.Repeat([]byte{1}, api.Page))
	before := look(p)
	mustFill(t, p, root, 0, mine, true, 3)
	mustFill(t, p, root, 64, other, true, 2)
	mustFill(t, p, root, 65, root, true, 0)
	if n := Drop(p, root); n != 5 {
		t.Fatalf("Drop is %d", n)
	}
	if !before.same(look(p)) {
		t.Error("Drop leaves something else than there was")
	}
}

func TestWipe(t *testing.T) {
	p, root, m := spread(t)
	left := p.Left()
	for _, frame := range append([]int{0, 1, 2, 7, 899, 901, 4096, 5 + 1<<56}, extremes...) {
		before := look(p)
		if n := Wipe(p, root, frame); n != 0 || !before.same(look(p)) {
			t.Fatalf("Wipe of a frame %d that no page has is %d", frame, n)
		}
	}
	for _, frame := range []int{5, 5, 6, 900, 900} {
		want := m.wipe(frame)
		if n := Wipe(p, root, frame); n != want {
			t.Fatalf("Wipe(%d) is %d, not %d", frame, n, want)
		}
		check(t, "wiped", p, root, m, true)
	}
	// The tables stay, so pages come again without a charge.
	if len(m.pages) != 0 || p.Left() != left {
		t.Fatalf("%d pages, %d frames free, not %d", len(m.pages), p.Left(), left)
	}
	mustFill(t, p, root, 511, 5, false, m.fill(511, 5, false))
	mustFill(t, p, root, 510, 8, true, m.fill(510, 8, true))
	check(t, "filled behind Wipe", p, root, m, false)
	if n, want := Drop(p, root), m.drop(); n != want {
		t.Errorf("Drop behind Wipe is %d, not %d", n, want)
	}
}

func TestWipeRights(t *testing.T) {
	p, root := rooted(t, 9)
	mustFill(t, p, root, 8, 5, true, 3)
	mustFill(t, p, root, 9, 5, false, 0)
	mustFill(t, p, root, 10, 5+256, true, 0)
	mustFill(t, p, root, 11, 4, false, 0)
	if n := Wipe(p, root, 5); n != 2 {
		t.Errorf("Wipe is %d", n)
	}
	check(t, "wiped", p, root, &model{pages: map[int]mapping{10: {5 + 256, true}, 11: {4, false}}}, false)
}

// TestWipeTables: a table's own frame is no page's.
func TestWipeTables(t *testing.T) {
	p, root := rooted(t, 9)
	mustFill(t, p, root, 100, 8, true, 3)
	before := look(p)
	for f := 1; f <= 4; f++ {
		if n := Wipe(p, root, f); n != 0 || !before.same(look(p)) {
			t.Fatalf("Wipe of table %d is %d", f, n)
		}
	}
}

func TestTwoRoots(t *testing.T) {
	p := frames.New(40)
	a, b := p.Alloc(1), p.Alloc(2)
	one, two := newModel(), newModel()
	for i, page := range []int{0, 4095, 8, 64, 1, 2000} {
		if n, ok := Fill(p, a, page, 5+i%2, true, 1, 3); !ok || n != one.fill(page, 5+i%2, true) {
			t.Fatalf("Fill of the one is %d, %v", n, ok)
		}
		if n, ok := Fill(p, b, 4095-page, 6, false, 2, 3); !ok || n != two.fill(4095-page, 6, false) {
			t.Fatalf("Fill of the other is %d, %v", n, ok)
		}
		check(t, "the one", p, a, one, false)
		check(t, "the other", p, b, two, false)
	}
	if n := Wipe(p, a, 6); n != one.wipe(6) {
		t.Errorf("Wipe is %d", n)
	}
	check(t, "the one, wiped", p, a, one, true)
	check(t, "the other", p, b, two, true)
	if n := Drop(p, a); n != one.drop() || p.Count(1) != 1 || p.Count(2) != len(two.tables)+1 {
		t.Errorf("Drop is %d, the owners have %d and %d", n, p.Count(1), p.Count(2))
	}
	check(t, "the one, dropped", p, a, one, true)
	check(t, "the other, left", p, b, two, true)
}

func TestTwoPools(t *testing.T) {
	p, root := rooted(t, 9)
	q, same := rooted(t, 9)
	mustFill(t, p, root, 3, 4, true, 3)
	check(t, "the other pool", q, same, newModel(), false)
	mustFill(t, q, same, 4, 5, false, 3)
	check(t, "the one pool", p, root, &model{pages: map[int]mapping{3: {4, true}}}, false)
}

// TestBytes reads the tables out of their frames as the chapter lays them.
func TestBytes(t *testing.T) {
	for _, page := range edges {
		for _, to := range []mapping{{1, false}, {1, true}, {0x01020304, true}, {1<<56 - 1, false}} {
			p, root := rooted(t, 4)
			mustFill(t, p, root, page, to.frame, to.may, 3)
			checkBytes(t, p, root, page, to)
		}
	}
}

// checkBytes follows the only page of a root through the bytes of its tables.
func checkBytes(t *testing.T, p *frames.Pool, root, page int, to mapping) {
	t.Helper()
	table := root
	for level, i := range []int{page / 512, page / 64 % 8, page / 8 % 8, page % 8} {
		b := p.Read(table, 0, api.Page)
		e := binary.BigEndian.Uint64(b[8*i:])
		clear(b[8*i : 8*i+8])
		if !bytes.Equal(b, make([]byte, api.Page)) {
			t.Fatalf("page %d: the table of level %d has other entries: %v", page, level, b)
		}
		if e%256/4 != 0 || e%2 != 1 {
			t.Fatalf("page %d: the lowest bits of level %d are %b", page, level, e%256)
		}
		if may := e/2%2 == 1; may != (level == 3 && to.may) {
			t.Fatalf("page %d: writable in level %d is %v", page, level, may)
		}
		table = int(e >> 8)
		if level < 3 && p.Owner(table) != 1 {
			t.Fatalf("page %d: level %d leads to %d", page, level, table)
		}
	}
	if table != to.frame {
		t.Fatalf("page %d leads to %d, not %d", page, table, to.frame)
	}
}

// TestAllPages maps all pages there are: 584 tables lie below the root.
func TestAllPages(t *testing.T) {
	p, root := rooted(t, 600)
	m := newModel()
	for i := range Count {
		page := i * 2731 % Count
		frame := page*7 + 1
		mustFill(t, p, root, page, frame, page%5 < 2, m.fill(page, frame, page%5 < 2))
	}
	if p.Count(1) != 585 {
		t.Fatalf("%d frames are charged", p.Count(1))
	}
	check(t, "all pages", p, root, m, true)
	if n := Wipe(p, root, 4095*7+1); n != m.wipe(4095*7+1) {
		t.Errorf("Wipe of the last page is %d", n)
	}
	check(t, "but the last", p, root, m, false)
	if n := Drop(p, root); n != 584 || p.Count(1) != 1 {
		t.Errorf("Drop is %d, %d frames are charged", n, p.Count(1))
	}
	check(t, "dropped", p, root, newModel(), true)
}

func TestWipeAllPages(t *testing.T) {
	p, root := rooted(t, 600)
	for page := range Count {
		Fill(p, root, page, 1+page%2, page%3 == 0, 1, 3)
	}
	if a, b := Wipe(p, root, 1), Wipe(p, root, 2); a != Count/2 || b != Count/2 {
		t.Errorf("Wipe is %d and %d", a, b)
	}
	check(t, "wiped", p, root, newModel(), true)
}

func TestAddresses(t *testing.T) {
	for page := range Count + 3 {
		for _, off := range []int{0, 1, 7, 8, 31, 32, 62, 63} {
			va := page*64 + off
			if Page(va) != page || Offset(va) != off {
				t.Fatalf("address %d is page %d, offset %d", va, Page(va), Offset(va))
			}
		}
	}
	for _, c := range [][3]int{
		{0, 0, 0}, {63, 0, 63}, {64, 1, 0}, {127, 1, 63}, {128, 2, 0},
		{api.Space - 1, Count - 1, 63}, {api.Space, Count, 0},
		{1 << 32, 1 << 26, 0}, {1<<32 - 1, 1<<26 - 1, 63},
		{math.MaxInt, math.MaxInt / 64, 63}, {math.MaxInt - 63, math.MaxInt / 64, 0}, {math.MaxInt - 64, math.MaxInt/64 - 1, 63},
	} {
		if Page(c[0]) != c[1] || Offset(c[0]) != c[2] {
			t.Errorf("address %d is page %d, offset %d", c[0], Page(c[0]), Offset(c[0]))
		}
	}
}

// TestNegativeAddresses: nothing is promised of them but an answer; what is mapped must not be reached by one.
func TestNegativeAddresses(t *testing.T) {
	for _, va := range []int{-1, -63, -64, -65, math.MinInt32, math.MinInt + 1, math.MinInt} {
		if page, off := Page(va), Offset(va); page >= 0 || off < 0 || off >= api.Page {
			t.Errorf("address %d is page %d, offset %d", va, page, off)
		}
	}
}

// A course is two roots in one pool, each with its owner and its model.
type course struct {
	p      *frames.Pool
	roots  [2]int
	models [2]*model
	next   func(below int) int
}

// try does one call with numbers that come by chance, and holds its answer against the model.
func (c *course) try(t *testing.T) {
	t.Helper()
	who := c.next(2)
	root, m := c.roots[who], c.models[who]
	switch c.next(20) {
	case 0:
		if n, want := Drop(c.p, root), m.drop(); n != want {
			t.Fatalf("Drop is %d, not %d", n, want)
		}
	case 1, 2:
		frame := c.next(6)
		if n, want := Wipe(c.p, root, frame), m.wipe(frame); n != want {
			t.Fatalf("Wipe(%d) is %d, not %d", frame, n, want)
		}
	default:
		c.fill(t, root, m)
	}
}

func (c *course) fill(t *testing.T, root int, m *model) {
	t.Helper()
	page, frame, may := c.next(Count+8)-4, c.next(6), c.next(2) == 0
	if c.next(2) == 0 {
		page = edges[c.next(len(edges))]
	}
	owner, most, left := uint64(c.next(8)), c.next(5), c.p.Left()
	can := page >= 0 && page < Count && frame > 0
	if can {
		need := m.missing(page)
		can = need <= most && need <= left && (need == 0 || owner > 0)
	}
	want := 0
	if can {
		want = m.fill(page, frame, may)
	}
	n, ok := Fill(c.p, root, page, frame, may, owner, most)
	if n != want || ok != can || c.p.Left() != left-want {
		t.Fatalf("Fill(%d, %d, owner %d, most %d) is %d, %v, not %d, %v", page, frame, owner, most, n, ok, want, can)
	}
}

// TestManyCalls goes a long way of calls that hang together, in pools that run full, and holds both roots against their models after each.
func TestManyCalls(t *testing.T) {
	for _, size := range []int{4, 9, 20, 60} {
		p := frames.New(size)
		seed := uint32(size)
		c := &course{p: p, roots: [2]int{p.Alloc(90), p.Alloc(91)}, models: [2]*model{newModel(), newModel()}}
		c.next = func(below int) int {
			seed = seed*1664525 + 1013904223
			return int(seed>>8) % below
		}
		for range 1500 {
			c.try(t)
			for who, root := range c.roots {
				check(t, "many calls", p, root, c.models[who], false)
			}
			tables := len(c.models[0].tables) + len(c.models[1].tables)
			if p.Left() != size-2-tables {
				t.Fatalf("%d frames are free, with %d tables of %d frames", p.Left(), tables, size)
			}
		}
	}
}
