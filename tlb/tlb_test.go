package tlb

import (
	"math"
	"slices"
	"testing"

	"glacis/api"
)

// extremes are pages at both ends of the numbers, around 0, and around an address space's last page.
var extremes = []int{math.MinInt, math.MinInt + 1, math.MinInt32, -5, -4, -1, 0, 1, 3, 4, 5, api.Space/api.Page - 1, api.Space / api.Page, math.MaxInt32, 1 << 32, math.MaxInt - 1, math.MaxInt}

// An entry is a page that a TLB should contain.
type entry struct {
	page, frame int
	write       bool
}

// A model is what a TLB should contain, in the order in which the pages came to their places: where places are used in rotation, the first one is the one that is lost.
type model []entry

func (m model) index(page int) int {
	return slices.IndexFunc(m, func(e entry) bool { return e.page == page })
}

// put is the chapter's Put. It answers a new list, so that a test can go on from one model in several ways.
func (m model) put(page, frame int, write bool) model {
	if frame < 1 {
		return m
	}
	next := slices.Clone(m)
	if i := m.index(page); i >= 0 {
		next[i] = entry{page, frame, write}
		return next
	}
	next = append(next, entry{page, frame, write})
	return next[max(0, len(next)-api.Entries):]
}

// find is the chapter's Find.
func (m model) find(page int, write bool) int {
	if i := m.index(page); i >= 0 && (m[i].write || !write) {
		return m[i].frame
	}
	return 0
}

// check holds Len, and Find of these pages and of those that the model has, against the model.
func check(t *testing.T, what string, x *TLB, m model, pages ...int) {
	t.Helper()
	if got := x.Len(); got != len(m) {
		t.Fatalf("%s: Len is %d, not %d", what, got, len(m))
	}
	for _, e := range m {
		checkPage(t, what, x, m, e.page)
	}
	for _, page := range pages {
		checkPage(t, what, x, m, page)
	}
}

func checkPage(t *testing.T, what string, x *TLB, m model, page int) {
	t.Helper()
	for _, write := range []bool{false, true} {
		if got, want := x.Find(page, write), m.find(page, write); got != want {
			t.Fatalf("%s: Find(%d, %v) is %d, not %d", what, page, write, got, want)
		}
	}
}

// full is a TLB and its model: pages 0 to 3, of which 1 and 2 are writable, so that the place of page 0 is the next one.
func full() (*TLB, model) {
	x, m := &TLB{}, model{}
	for page := range api.Entries {
		write := page == 1 || page == 2
		x.Put(page, 10+page, write)
		m = m.put(page, 10+page, write)
	}
	return x, m
}

func TestZeroValue(t *testing.T) {
	var x TLB
	check(t, "the zero value", &x, nil, extremes...)
	x.Put(7, 3, true)
	if x.Find(7, true) != 3 || x.Find(7, false) != 3 || x.Len() != 1 {
		t.Errorf("the zero value isn't ready: Find is %d and %d, Len is %d", x.Find(7, true), x.Find(7, false), x.Len())
	}
	// An empty place is no page 0.
	check(t, "one page", &x, model{{7, 3, true}}, extremes...)
}

func TestExample(t *testing.T) {
	var x TLB
	for page := 1; page <= 5; page++ {
		x.Put(page, 20+page, true)
	}
	check(t, "five pages", &x, model{{2, 22, true}, {3, 23, true}, {4, 24, true}, {5, 25, true}}, 1)
}

// TestRotation puts fewer, just as many and more pages than there are places, beginning with an empty, a used and a flushed TLB.
func TestRotation(t *testing.T) {
	used, _ := full()
	flushed, _ := full()
	flushed.Put(99, 1, false)
	flushed.Flush()
	for _, c := range []struct {
		what string
		x    *TLB
		lost []int // of what was in the TLB before, in the order in which it goes
	}{
		{"new", &TLB{}, nil},
		{"used", used, []int{0, 1, 2, 3}},
		{"flushed", flushed, nil},
	} {
		for n := range 3*api.Entries + 2 {
			c.x.Put(100+n, 200+n, n%2 == 0)
			for i := range n + 1 {
				want := 0
				if i > n-api.Entries {
					want = 200 + i
				}
				if got := c.x.Find(100+i, false); got != want {
					t.Fatalf("%s: behind %d pages, Find of page %d is %d, not %d", c.what, n+1, i, got, want)
				}
				if i%2 != 0 {
					want = 0
				}
				if got := c.x.Find(100+i, true); got != want {
					t.Fatalf("%s: behind %d pages, Find of page %d to write is %d, not %d", c.what, n+1, i, got, want)
				}
			}
			for i, page := range c.lost {
				if got := c.x.Find(page, false); (got != 0) != (i > n) {
					t.Fatalf("%s: behind %d pages, Find of the elder page %d is %d", c.what, n+1, page, got)
				}
			}
			if got, want := c.x.Len(), min(n+1+len(c.lost), api.Entries); got != want {
				t.Fatalf("%s: behind %d pages, Len is %d, not %d", c.what, n+1, got, want)
			}
		}
	}
}

// TestPlaces looks at the places themselves, as no call tells where a page lies: the first page goes into the first place, the next one into the next.
func TestPlaces(t *testing.T) {
	var x TLB
	for round := range 2 {
		for n := range 3 * api.Entries {
			x.Put(100+n, 1+n, true)
			if got := x.places[n%api.Entries]; got != (place{100 + n, 1 + n, true}) {
				t.Fatalf("round %d: behind page %d, its place has %v", round, n, got)
			}
			x.Put(100+n, 500, false)
			if got := x.places[n%api.Entries]; got != (place{100 + n, 500, false}) {
				t.Fatalf("round %d: page %d put again isn't in its own place: %v", round, n, got)
			}
		}
		x.Put(1, 1, true) // so that another place than the first one is the next when it is flushed
		x.Flush()
	}
}

// TestLost puts 0 to 3 other pages more into a full TLB and a page behind them: who is lost goes round.
func TestLost(t *testing.T) {
	for n, lost := range []int{0, 1, 2, 3, 100, 101, 102, 103, 104} {
		x, _ := full()
		for i := range n {
			x.Put(100+i, 1, false)
		}
		if x.Find(lost, false) == 0 {
			t.Fatalf("page %d is lost before it is its turn", lost)
		}
		x.Put(100+n, 1, false)
		if x.Find(lost, false) != 0 {
			t.Errorf("page %d stays, behind %d more", lost, n+1)
		}
	}
}

// TestPutAgain: a page that has a place keeps it, with another frame and another right to write, and the next place stays the next.
func TestPutAgain(t *testing.T) {
	for page := range api.Entries {
		for _, write := range []bool{false, true} {
			for times := range 2 * api.Entries {
				x, m := full()
				for i := range times + 1 {
					x.Put(page, 70+i, write != (i%2 == 0))
					m = m.put(page, 70+i, write != (i%2 == 0))
					check(t, "put again", x, m, 4, 5, -1)
				}
				// The same pages are lost in the same order as if it hadn't been put again.
				for lost := range api.Entries {
					if x.Find(lost, false) == 0 {
						t.Fatalf("page %d put again: page %d is lost before its turn", page, lost)
					}
					x.Put(50+lost, 1, true)
					m = m.put(50+lost, 1, true)
					check(t, "put again, and others", x, m, 0, 1, 2, 3)
				}
			}
		}
	}
}

// TestPutAgainHalfFull: also while there are empty places, a page put again takes none of them.
func TestPutAgainHalfFull(t *testing.T) {
	for n := 1; n < api.Entries; n++ {
		for again := range n {
			var x TLB
			var m model
			for page := range n {
				x.Put(page, 10+page, true)
				m = m.put(page, 10+page, true)
			}
			for i := range 5 {
				x.Put(again, 30+i, false)
				m = m.put(again, 30+i, false)
				check(t, "put again, half full", &x, m, 0, 1, 2, 3)
			}
			for page := 60; page < 67; page++ {
				x.Put(page, page, false)
				m = m.put(page, page, false)
				check(t, "filled up", &x, m, 0, 1, 2, 3, 60, 61, 62)
			}
		}
	}
}

// TestPutLost: a page that was lost is put as one that never was there.
func TestPutLost(t *testing.T) {
	x, m := full()
	for _, page := range []int{4, 0, 1, 2, 3, 4, 4, 0} {
		x.Put(page, 80+page, page%2 == 0)
		m = m.put(page, 80+page, page%2 == 0)
		check(t, "put a lost one", x, m, 0, 1, 2, 3, 4, 5)
	}
}

func TestPutNoFrame(t *testing.T) {
	for _, frame := range []int{0, -1, -2, -64, math.MinInt32, math.MinInt + 1, math.MinInt} {
		for _, write := range []bool{false, true} {
			x, m := full()
			before := *x
			for _, page := range append([]int{0, 1, 2, 3, 4, 9}, extremes...) {
				x.Put(page, frame, write)
				check(t, "put of no frame", x, m, page, 4, 9)
				if *x != before {
					t.Fatalf("Put(%d, %d, %v) changed something", page, frame, write)
				}
			}
			var empty TLB
			empty.Put(0, frame, write)
			empty.Put(5, frame, write)
			check(t, "put of no frame into an empty one", &empty, nil, 0, 5)
			// The place that is next has stayed the next.
			x.Put(6, 7, write)
			m = m.put(6, 7, write)
			check(t, "a frame behind none", x, m, 0, 1, 2, 3, 4, 6)
		}
	}
}

// TestPutFrames: any frame from 1 on is stored as it stands, also beyond what a machine has.
func TestPutFrames(t *testing.T) {
	for _, frame := range []int{1, 2, api.MaxFrames, api.MaxFrames + 1, math.MaxInt32, 1 << 32, math.MaxInt - 1, math.MaxInt} {
		var x TLB
		x.Put(5, frame, true)
		x.Put(6, frame, false)
		check(t, "a frame", &x, model{{5, frame, true}, {6, frame, false}}, 0, 4)
	}
}

// TestPutPages: any integer is a page of its own.
func TestPutPages(t *testing.T) {
	var x TLB
	var m model
	check(t, "empty", &x, m, extremes...)
	for round := range 3 {
		for i, page := range extremes {
			write := (i+round)%2 == 0
			x.Put(page, 1+i, write)
			m = m.put(page, 1+i, write)
			check(t, "any page", &x, m, extremes...)
		}
	}
}

func TestFindChangesNothing(t *testing.T) {
	x, m := full()
	before := *x
	for range 3 {
		for _, page := range append([]int{1, 2, 6}, extremes...) {
			checkPage(t, "find", x, m, page)
		}
	}
	if *x != before || x.Len() != api.Entries || *x != before {
		t.Fatal("Find or Len changed something")
	}
	// What was found last is no younger for it.
	for range 3 {
		x.Find(0, false)
		x.Find(1, true)
	}
	x.Put(9, 9, true)
	check(t, "a page behind finding", x, m.put(9, 9, true), 0, 1)
}

func TestFlush(t *testing.T) {
	for n := range 2*api.Entries + 1 {
		var x TLB
		for page := range n {
			x.Put(page, 10+page, true)
		}
		for range 2 {
			x.Flush()
			check(t, "flushed", &x, nil, append([]int{2, 6, 7, 8}, extremes...)...)
			// That the first place is the next one, no call tells by itself: a flushed TLB is like a new one in all.
			if x != (TLB{}) {
				t.Fatalf("flushed behind %d pages: %v", n, x)
			}
		}
		var m model
		for page := 40; page < 40+2*api.Entries; page++ {
			x.Put(page, page, page%2 == 0)
			m = m.put(page, page, page%2 == 0)
			check(t, "put behind a flush", &x, m, 0, 1, 2, 3, 40, 41, 42, 43)
		}
	}
}

// TestFlushForgetsRights: a page that is put behind a flush has nothing of what it had ahead of it.
func TestFlushForgetsRights(t *testing.T) {
	x, _ := full()
	x.Flush()
	x.Put(2, 5, false)
	check(t, "put anew", x, model{{2, 5, false}}, 0, 1, 3)
}

func TestApart(t *testing.T) {
	a, m := full()
	b := &TLB{}
	check(t, "the other one", b, nil, 0, 1, 2, 3)
	c := *a
	b.Put(1, 90, true)
	c.Put(8, 91, true)
	check(t, "the first one", a, m, 8)
	a.Flush()
	check(t, "the second one", b, model{{1, 90, true}}, 0, 2, 3)
	check(t, "the copy", &c, m.put(8, 91, true), 0)
}

func TestNil(t *testing.T) {
	var x *TLB
	for _, page := range extremes {
		for _, frame := range append([]int{1, 2}, extremes...) {
			for _, write := range []bool{false, true} {
				x.Put(page, frame, write)
				if got := x.Find(page, write); got != 0 {
					t.Fatalf("Find(%d, %v) of nil is %d", page, write, got)
				}
			}
		}
		x.Flush()
		if got := x.Len(); got != 0 {
			t.Fatalf("Len of nil is %d", got)
		}
	}
}

// TestAllWays goes all ways of seven calls: Put of six pages, each with a frame of its own in that call, Put of no frame, and Flush.
func TestAllWays(t *testing.T) {
	goOn(t, TLB{}, nil, 7)
}

func goOn(t *testing.T, x TLB, m model, left int) {
	check(t, "all ways", &x, m, 0, 1, 2, 3, 4, 5)
	if left == 0 {
		return
	}
	for page := range 6 {
		next, frame, write := x, 10*left+page, (left+page)%3 != 0
		next.Put(page, frame, write)
		goOn(t, next, m.put(page, frame, write), left-1)
	}
	next := x
	next.Put(left%6, 0, true)
	if next != x {
		t.Fatal("Put of no frame changed something")
	}
	next.Flush()
	goOn(t, next, nil, left-1)
}

// TestLongWay goes a long way of mixed calls, whose numbers come from a short rule.
func TestLongWay(t *testing.T) {
	var x TLB
	var m model
	seed := uint32(1)
	draw := func(n int) int {
		seed = seed*1664525 + 1013904223
		return int(seed>>8) % n
	}
	for range 200000 {
		page := extremes[draw(7)+5]
		switch draw(30) {
		case 0:
			x.Flush()
			m = nil
		default:
			frame, write := draw(50)-3, draw(2) == 0
			x.Put(page, frame, write)
			m = m.put(page, frame, write)
		}
		check(t, "a long way", &x, m, extremes[5:12]...)
	}
}
