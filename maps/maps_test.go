package maps

import (
	"math"
	"math/big"
	"slices"
	"testing"

	"glacis/api"
)

const (
	count    = 4096 // pages that there are
	most     = 16   // maps of a space, and pages of a segment
	greatest = math.MaxUint64
)

// extremes are integers far outside of every range, and those from which a sum overflows.
var extremes = []int{
	math.MinInt, math.MinInt + 1, math.MinInt + 15, math.MinInt + 16, math.MinInt + 17, math.MinInt + count - 16, math.MinInt + count, math.MinInt32, -1 << 32,
	1 << 32, 1<<32 + 1, 1<<32 + 16, math.MaxInt32, math.MaxInt - count, math.MaxInt - 17, math.MaxInt - 16, math.MaxInt - 15, math.MaxInt - 1, math.MaxInt,
}

// counts, firsts and froms are values of N, At and From: those about the edges, and the extremes.
var (
	counts = append([]int{-16, -2, -1, 0, 1, 2, 7, 15, 16, 17, 18, 255, 256, 257, count - 1, count, count + 1}, extremes...)
	firsts = append([]int{-count, -17, -16, -15, -2, -1, 0, 1, 2, 15, 16, 17, 2048, 4078, 4079, 4080, 4081, 4082, 4088, 4089, 4090, 4093, 4094, 4095, 4096, 4097, 8192}, extremes...)
	froms  = append([]int{-17, -16, -15, -2, -1, 0, 1, 2, 8, 9, 10, 13, 14, 15, 16, 17, 255, 256, 4095, 4096}, extremes...)
	segs   = []uint64{0, 1, 2, 1 << 22, 1 << 32, 1<<63 - 1, 1 << 63, greatest - 1, greatest}
)

// A model is what a space should be: for each page the map that has it, or one without pages.
type model [count]api.Map

// validMap is the chapter's valid map, by sums that can't overflow.
func validMap(m api.Map) bool {
	within := func(from, n, bound int) bool {
		sum := new(big.Int).Add(big.NewInt(int64(from)), big.NewInt(int64(n)))
		return from >= 0 && sum.Cmp(big.NewInt(int64(bound))) <= 0
	}
	return m.N > 0 && m.N < 17 && m.Seg > 0 && within(m.At, m.N, count) && within(m.From, m.N, 16)
}

// list is the maps of the space, by their pages.
func (s *model) list() []api.Map {
	var l []api.Map
	for page, m := range s {
		if m.N != 0 && m.At == page {
			l = append(l, m)
		}
	}
	return l
}

// find is the chapter's Find.
func (s *model) find(page int) (api.Map, bool) {
	if page < 0 || page >= count {
		return api.Map{}, false
	}
	return s[page], s[page].N != 0
}

// add is the chapter's Add.
func (s *model) add(m api.Map) api.Errno {
	if !validMap(m) {
		return api.ErrArg
	}
	for i := range m.N {
		if s[m.At+i].N != 0 {
			return api.ErrArg
		}
	}
	if len(s.list()) == most {
		return api.ErrFull
	}
	for i := range m.N {
		s[m.At+i] = m
	}
	return api.OK
}

// remove is the chapter's Remove.
func (s *model) remove(at int) api.Errno {
	m, ok := s.find(at)
	if !ok || m.At != at {
		return api.ErrNone
	}
	for i := range m.N {
		s[at+i] = api.Map{}
	}
	return api.OK
}

// segments is the chapter's Segs: each name that is not the same as the one ahead of it, when they are sorted.
func segments(l []api.Map) []uint64 {
	seen := map[uint64]bool{}
	var names []uint64
	for _, m := range l {
		if !seen[m.Seg] {
			names = append(names, m.Seg)
		}
		seen[m.Seg] = true
	}
	slices.Sort(names)
	return names
}

// modelOf is the model of the maps of a space.
func modelOf(t *testing.T, l []api.Map) *model {
	t.Helper()
	s := new(model)
	for _, m := range l {
		if s.add(m) != api.OK {
			t.Fatalf("the test asks for maps that are not those of a space: %v", l)
		}
	}
	if !slices.Equal(s.list(), l) {
		t.Fatalf("the test asks for maps that are not in their order: %v", l)
	}
	return s
}

// canary stands in memory that no call may change.
var canary = api.Map{At: 77, Seg: 0xDEAD, From: 99, N: 55, Write: true}

// A guarded list has room behind its end, and canaries around it.
type guarded struct {
	l, all, was []api.Map
}

func guard(l []api.Map) *guarded {
	all := slices.Concat([]api.Map{canary}, l, []api.Map{canary, canary, canary})
	return &guarded{all[1 : 1+len(l) : len(all)-1], all, slices.Clone(all)}
}

// whole fails if a byte of the memory has changed.
func (g *guarded) whole(t *testing.T, what string) {
	t.Helper()
	if !slices.Equal(g.all, g.was) {
		t.Fatalf("%s: the memory of the list is %v, was %v", what, g.all, g.was)
	}
}

// apart fails if an answer has memory of the list: it writes to all of the one, and then of the other.
func (g *guarded) apart(t *testing.T, what string, answer []api.Map) {
	t.Helper()
	was := slices.Clone(answer)
	room := answer[:cap(answer)]
	for i := range room {
		room[i] = api.Map{At: 1, N: i}
	}
	g.whole(t, what+", and the answer changed")
	copy(answer, was)
	for i := range g.all {
		g.all[i] = api.Map{At: 2, N: i}
	}
	if !slices.Equal(answer, was) {
		t.Fatalf("%s, and the list changed: the answer becomes %v, was %v", what, answer, was)
	}
	copy(g.all, g.was)
}

// same holds an answered list against the one that it should be.
func same(t *testing.T, what string, got, want []api.Map) {
	t.Helper()
	if !slices.Equal(got, want) {
		t.Fatalf("%s: the maps are %v, not %v", what, got, want)
	}
}

// add does one Add on a list and on its model, and holds them against one another.
func add(t *testing.T, l []api.Map, s *model, m api.Map) []api.Map {
	t.Helper()
	g := guard(l)
	want := s.add(m)
	got, e := Add(g.l, m)
	g.whole(t, "Add")
	if e != want {
		t.Fatalf("Add(%v, %v) is %d, not %d", l, m, e, want)
	}
	if e != api.OK {
		same(t, "Add, refused", got, nil)
		return l
	}
	same(t, "Add", got, s.list())
	g.apart(t, "Add", got)
	return got
}

// remove does one Remove on a list and on its model, and holds them against one another.
func remove(t *testing.T, l []api.Map, s *model, at int) []api.Map {
	t.Helper()
	g := guard(l)
	want := s.remove(at)
	got, e := Remove(g.l, at)
	g.whole(t, "Remove")
	if e != want {
		t.Fatalf("Remove(%v, %d) is %d, not %d", l, at, e, want)
	}
	if e != api.OK {
		same(t, "Remove, refused", got, nil)
		return l
	}
	same(t, "Remove", got, s.list())
	g.apart(t, "Remove", got)
	return got
}

// find holds one Find against the model.
func find(t *testing.T, l []api.Map, s *model, page int) {
	t.Helper()
	m, ok := Find(l, page)
	if want, has := s.find(page); m != want || ok != has {
		t.Fatalf("Find(%v, %d) is %v and %v, not %v and %v", l, page, m, ok, want, has)
	}
}

// asked are pages to look for: those around each map's edges, those around the space's, and the extremes.
func asked(l []api.Map) []int {
	all := append([]int{-2, -1, 0, 1, count - 2, count - 1, count, count + 1}, extremes...)
	for _, m := range l {
		all = append(all, m.At-1, m.At, m.At+1, m.At+m.N/2, m.At+m.N-1, m.At+m.N, m.At+m.N+1)
	}
	return all
}

// check holds everything that can be asked of the maps of a space against the model.
func check(t *testing.T, l []api.Map, s *model) {
	t.Helper()
	g := guard(l)
	same(t, "the space", g.l, s.list())
	for range 2 {
		if !Right(g.l) {
			t.Fatalf("Right(%v) is false", l)
		}
	}
	for _, page := range asked(l) {
		find(t, g.l, s, page)
	}
	if got, want := Segs(g.l), segments(l); !slices.Equal(got, want) {
		t.Fatalf("Segs(%v) is %v, not %v", l, got, want)
	}
	g.whole(t, "Right, Find and Segs")
}

// rightMaps is the chapter's maps of a space.
func rightMaps(l []api.Map) bool {
	if len(l) > most {
		return false
	}
	s := new(model)
	for i, m := range l {
		if s.add(m) != api.OK || i > 0 && m.At <= l[i-1].At {
			return false
		}
	}
	return true
}

// right holds Right of a list against what a table says, and against the model.
func right(t *testing.T, l []api.Map, want bool) {
	t.Helper()
	if rightMaps(l) != want {
		t.Fatalf("the test takes %v for %v", l, want)
	}
	g := guard(l)
	if Right(g.l) != want {
		t.Fatalf("Right(%v) is %v", l, !want)
	}
	g.whole(t, "Right")
}

// spread is n maps of one to three pages, with gaps between them.
func spread(n int) []api.Map {
	var l []api.Map
	for i := range n {
		l = append(l, api.Map{At: 100 + 10*i, Seg: uint64(1000 - i), From: i % 5, N: 1 + i%3, Write: i%2 == 0})
	}
	return l
}

func TestTheFieldsOfOneMap(t *testing.T) {
	for _, n := range counts {
		for _, at := range firsts {
			for _, from := range froms {
				for i, seg := range segs {
					m := api.Map{At: at, Seg: seg, From: from, N: n, Write: i%2 == 0}
					want := validMap(m)
					if Right([]api.Map{m}) != want {
						t.Fatalf("Right of %v alone is %v", m, !want)
					}
					l, e := Add(nil, m)
					if want && (e != api.OK || len(l) != 1 || l[0] != m) || !want && (e != api.ErrArg || len(l) != 0) {
						t.Fatalf("Add of %v to none is %v and %d", m, l, e)
					}
				}
			}
		}
	}
}

// valids and wrongs are worked out by hand: those at the edges of each field, and those just beyond one or far beyond several.
var (
	valids = []api.Map{
		{At: 0, Seg: 1, N: 1}, {At: 0, Seg: 1, N: 16}, {At: 4095, Seg: 1, N: 1}, {At: 4080, Seg: 1, N: 16}, {At: 4094, Seg: 1, N: 2},
		{At: 0, Seg: 1, From: 15, N: 1}, {At: 0, Seg: 1, From: 14, N: 2}, {At: 0, Seg: 1, From: 1, N: 15}, {At: 0, Seg: greatest, N: 1, Write: true}, {At: 4095, Seg: greatest, From: 15, N: 1},
	}
	wrongs = []api.Map{
		{}, {At: 8}, {At: 8, Seg: 1}, {At: 8, N: 1}, {At: 8, Seg: 1, N: -1}, {At: 8, Seg: 1, N: 17}, {At: -1, Seg: 1, N: 1}, {At: -1, Seg: 1, N: 2}, {At: -16, Seg: 1, N: 16},
		{At: 4096, Seg: 1, N: 1}, {At: 4095, Seg: 1, N: 2}, {At: 4081, Seg: 1, N: 16}, {At: 4096, Seg: 1}, {At: 4097, Seg: 1, N: -1}, {At: 8, Seg: 1, From: -1, N: 1}, {At: 8, Seg: 1, From: -1, N: 2},
		{At: 8, Seg: 1, From: 16, N: 1}, {At: 8, Seg: 1, From: 15, N: 2}, {At: 8, Seg: 1, From: 1, N: 16}, {At: 8, Seg: 1, From: 16}, {At: 8, Seg: 1, From: 17, N: -1},
		{At: math.MaxInt, Seg: 1, N: 1}, {At: math.MaxInt, Seg: 1, N: 16}, {At: math.MinInt, Seg: 1, N: 1}, {At: math.MinInt, Seg: 1, N: 16}, {At: 8, Seg: 1, From: math.MaxInt, N: 1},
		{At: 8, Seg: 1, From: math.MaxInt, N: 16}, {At: 8, Seg: 1, From: math.MinInt, N: 1}, {At: 8, Seg: 1, N: math.MaxInt}, {At: 8, Seg: 1, N: math.MinInt}, {Seg: 1, N: math.MinInt},
		{At: math.MaxInt, Seg: 1, N: math.MinInt}, {At: math.MinInt, Seg: 1, N: math.MinInt}, {At: math.MinInt, Seg: 1, From: math.MinInt, N: math.MinInt}, {At: math.MaxInt, Seg: greatest, From: math.MaxInt, N: math.MaxInt},
		{At: math.MaxInt, Seg: 1, From: math.MaxInt, N: math.MinInt}, {At: math.MinInt, Seg: 1, From: math.MinInt, N: math.MaxInt}, {At: 1<<32 + 8, Seg: 1, N: 1}, {At: 8, Seg: 1, N: 1<<32 + 1}, {At: 8, Seg: 1, From: 1 << 32, N: 1},
	}
)

func TestRightByHand(t *testing.T) {
	right(t, nil, true)
	right(t, []api.Map{}, true)
	if !Right(nil) {
		t.Fatal("Right(nil) is false")
	}
	for _, m := range valids {
		right(t, []api.Map{m}, true)
	}
	for _, m := range wrongs {
		right(t, []api.Map{m}, false)
	}
	a, b, c := api.Map{At: 4, Seg: 9, N: 2}, api.Map{At: 6, Seg: 9, N: 3}, api.Map{At: 12, Seg: 3, N: 16}
	for _, l := range [][]api.Map{{a, b}, {b, c}, {a, c}, {a, b, c}, {a, {At: 6, Seg: 9, N: 6}, c}, {a, b, {At: 9, Seg: 1, N: 3}, c, {At: 28, Seg: 9, N: 1}}} {
		right(t, l, true)
	}
	for _, l := range [][]api.Map{{a, a}, {b, a}, {c, a}, {a, c, b}, {b, a, c}, {c, b, a}, {a, b, c, c}, {a, {At: 5, Seg: 9, N: 1}}, {a, {At: 5, Seg: 9, N: 2}}, {a, {At: 4, Seg: 9, N: 1}}, {a, b, {At: 8, Seg: 9, N: 1}}, {a, b, {At: 5, Seg: 9, N: 1}}, {{At: 0, Seg: 1, N: 5}, a}, {{At: 0, Seg: 1, N: 16}, a}} {
		right(t, l, false)
	}
}

func TestRightOfManyMaps(t *testing.T) {
	for n := range most + 1 {
		l := spread(n)
		right(t, l, true)
		for i := range n {
			for _, m := range wrongs {
				changed := slices.Clone(l)
				changed[i] = m
				right(t, changed, false)
			}
			right(t, slices.Insert(slices.Clone(l), i, l[i]), false)
			for j := range i {
				changed := slices.Clone(l)
				changed[i], changed[j] = l[j], l[i]
				right(t, changed, false)
			}
		}
	}
	for n := most + 1; n < 3*most; n++ {
		right(t, spread(n), false)
	}
	// The ends of one address space, all of it between them covered as far as 16 maps reach.
	var touching []api.Map
	for i := range most {
		touching = append(touching, api.Map{At: 3840 + 16*i, Seg: 7, N: 16})
	}
	right(t, touching, true)
	for i := range most {
		touching[i].At--
		right(t, touching, i == 0)
		touching[i].At += 2
		right(t, touching, false)
		touching[i].At--
	}
}

// small are all maps of up to three pages among the first five ones, and among the last.
func small() []api.Map {
	var all []api.Map
	for n := 1; n <= 3; n++ {
		for at := range 6 - n {
			all = append(all, api.Map{At: at, Seg: uint64(10 - at), From: at, N: n, Write: at%2 == 0}, api.Map{At: count - 5 + at, Seg: uint64(n), N: n})
		}
	}
	return all
}

func TestRightOfAllSmallLists(t *testing.T) {
	all := small()
	for _, a := range all {
		for _, b := range all {
			for _, c := range all {
				l := []api.Map{a, b, c}
				// Worked out without the model, which is slow: each one ends at or ahead of the next one's beginning.
				for n := range len(l) + 1 {
					want := (n < 2 || a.At+a.N <= b.At) && (n < 3 || b.At+b.N <= c.At)
					if Right(l[:n]) != want {
						t.Fatalf("Right(%v) is %v", l[:n], !want)
					}
				}
			}
		}
	}
}

func TestFindByHand(t *testing.T) {
	a, b, c, d := api.Map{At: 0, Seg: 5, From: 3, N: 1}, api.Map{At: 4, Seg: 6, From: 1, N: 2, Write: true}, api.Map{At: 6, Seg: 5, N: 3}, api.Map{At: 4095, Seg: greatest, From: 15, N: 1, Write: true}
	l := []api.Map{a, b, c, d}
	for _, c := range []struct {
		page int
		want api.Map
	}{{-1, api.Map{}}, {0, a}, {1, api.Map{}}, {3, api.Map{}}, {4, b}, {5, b}, {6, c}, {7, c}, {8, c}, {9, api.Map{}}, {2000, api.Map{}}, {4094, api.Map{}}, {4095, d}, {4096, api.Map{}}, {math.MinInt, api.Map{}}, {math.MaxInt, api.Map{}}} {
		if m, ok := Find(l, c.page); m != c.want || ok != (c.want.N > 0) {
			t.Errorf("Find(%d) is %v and %v, not %v", c.page, m, ok, c.want)
		}
	}
}

func TestFindEveryPage(t *testing.T) {
	last := []api.Map{{At: 4080, Seg: 1, N: 16}}
	both := []api.Map{{At: 0, Seg: 2, N: 16}, {At: 4079, Seg: 1, N: 16}}
	for _, l := range [][]api.Map{nil, {}, spread(1), spread(2), spread(most), last, both} {
		s := modelOf(t, l)
		for page := -20; page < count+20; page++ {
			find(t, l, s, page)
		}
		for _, page := range asked(l) {
			find(t, l, s, page)
		}
	}
}

func TestAddByHand(t *testing.T) {
	a, b, c := api.Map{At: 4, Seg: 6, N: 2}, api.Map{At: 8, Seg: 7, N: 4, Write: true}, api.Map{At: 20, Seg: 6, N: 16}
	l := []api.Map{a, b, c}
	modelOf(t, l)
	at := func(page, n int) api.Map { return api.Map{At: page, Seg: 3, From: 0, N: n} }
	for _, m := range []api.Map{a, b, c, at(4, 1), at(5, 1), at(4, 2), at(3, 2), at(3, 3), at(3, 4), at(5, 2), at(5, 3), at(5, 4), at(0, 5), at(0, 16), at(7, 2), at(7, 6), at(11, 1), at(11, 2), at(9, 2), at(12, 9), at(19, 2), at(35, 1), at(35, 16), at(20, 1), at(21, 14), at(5, 16)} {
		if got, e := Add(l, m); e != api.ErrArg || len(got) != 0 {
			t.Errorf("Add of %v is %v and %d", m, got, e)
		}
	}
	for _, c := range []struct {
		m api.Map
		i int
	}{{at(0, 1), 0}, {at(0, 4), 0}, {at(3, 1), 0}, {at(6, 1), 1}, {at(6, 2), 1}, {at(7, 1), 1}, {at(12, 8), 2}, {at(12, 1), 2}, {at(19, 1), 2}, {at(13, 6), 2}, {at(36, 1), 3}, {at(36, 16), 3}, {at(4095, 1), 3}, {at(4080, 16), 3}} {
		want := slices.Insert(slices.Clone(l), c.i, c.m)
		if got, e := Add(l, c.m); e != api.OK || !slices.Equal(got, want) {
			t.Errorf("Add of %v is %v and %d", c.m, got, e)
		}
	}
}

func TestAddOfWrongMaps(t *testing.T) {
	for n := range most + 1 {
		l := spread(n)
		s := modelOf(t, l)
		for _, m := range wrongs {
			if got, e := Add(l, m); e != api.ErrArg || len(got) != 0 {
				t.Fatalf("Add of %v to %d maps is %v and %d", m, n, got, e)
			}
			add(t, l, s, m)
		}
		check(t, l, s)
	}
}

func TestAddToFullMaps(t *testing.T) {
	l := spread(most - 1)
	full := add(t, l, modelOf(t, l), api.Map{At: 4080, Seg: 1, From: 0, N: 16})
	s := modelOf(t, full)
	for _, m := range full {
		for _, over := range []api.Map{m, {At: m.At - 1, Seg: 1, N: 2}, {At: m.At + m.N - 1, Seg: 1, N: 1}, {At: m.At - 1, Seg: 1, N: m.N + 1}} {
			if got, e := Add(full, over); e != api.ErrArg || len(got) != 0 {
				t.Fatalf("Add of %v, over another one of 16, is %v and %d", over, got, e)
			}
		}
	}
	for _, m := range []api.Map{{At: 0, Seg: 1, N: 1}, {At: 99, Seg: 1, N: 1}, {At: 101, Seg: 1, N: 9}, {At: 4079, Seg: 1, N: 1}, {At: 1000, Seg: greatest, From: 15, N: 1, Write: true}} {
		if got, e := Add(full, m); e != api.ErrFull || len(got) != 0 {
			t.Fatalf("Add of %v to 16 is %v and %d", m, got, e)
		}
		add(t, full, s, m)
	}
	for i := range full {
		fewer := slices.Delete(slices.Clone(full), i, i+1)
		got, e := Add(fewer, full[i])
		if e != api.OK || !slices.Equal(got, full) {
			t.Fatalf("Add of %v to 15 is %v and %d", full[i], got, e)
		}
	}
	check(t, full, s)
}

// orders calls a function with each order of the first n numbers.
func orders(n int, each func(order []int)) {
	var rest func(order []int)
	rest = func(order []int) {
		if len(order) == n {
			each(order)
			return
		}
		for i := range n {
			if !slices.Contains(order, i) {
				rest(append(slices.Clone(order), i))
			}
		}
	}
	rest(nil)
}

func TestAddAndRemoveInEveryOrder(t *testing.T) {
	all := []api.Map{{At: 0, Seg: 9, N: 2}, {At: 2, Seg: 4, From: 1, N: 3, Write: true}, {At: 9, Seg: 9, N: 1}, {At: 10, Seg: 1, From: 15, N: 1}, {At: 4095, Seg: greatest, N: 1}}
	orders(len(all), func(order []int) {
		var l []api.Map
		s := new(model)
		for _, i := range order {
			before := slices.Clone(l)
			l = add(t, l, s, all[i])
			// What is added and removed again leaves the maps as they were.
			if back, e := Remove(l, all[i].At); e != api.OK || !slices.Equal(back, before) {
				t.Fatalf("%v, added to %v and removed, leaves %v and %d", all[i], before, back, e)
			}
		}
		same(t, "all of them", l, all)
		for _, i := range order {
			l = remove(t, l, s, all[i].At)
		}
		same(t, "none of them", l, nil)
	})
}

func TestAddOfAllSmallMaps(t *testing.T) {
	all := small()
	for _, a := range all {
		for _, b := range all {
			l := []api.Map{a, b}
			if !Right(l) {
				continue
			}
			for _, m := range all {
				add(t, l, modelOf(t, l), m)
			}
			for _, at := range asked(l) {
				remove(t, l, modelOf(t, l), at)
			}
			check(t, l, modelOf(t, l))
		}
	}
}

func TestRemoveByHand(t *testing.T) {
	a, b, c := api.Map{At: 4, Seg: 6, N: 2}, api.Map{At: 8, Seg: 7, N: 4, Write: true}, api.Map{At: 20, Seg: 6, N: 16}
	l := []api.Map{a, b, c}
	for _, at := range []int{math.MinInt, -4, -1, 0, 3, 5, 6, 7, 9, 10, 11, 12, 19, 21, 35, 36, 4095, 4096, math.MaxInt} {
		if got, e := Remove(l, at); e != api.ErrNone || len(got) != 0 {
			t.Errorf("Remove at %d is %v and %d", at, got, e)
		}
	}
	for _, c := range []struct {
		at   int
		want []api.Map
	}{{4, []api.Map{b, c}}, {8, []api.Map{a, c}}, {20, []api.Map{a, b}}} {
		if got, e := Remove(l, c.at); e != api.OK || !slices.Equal(got, c.want) {
			t.Errorf("Remove at %d is %v and %d", c.at, got, e)
		}
	}
	for _, m := range valids {
		if got, e := Remove([]api.Map{m}, m.At); e != api.OK || len(got) != 0 {
			t.Errorf("Remove of %v, the only one, is %v and %d", m, got, e)
		}
	}
	for _, at := range append([]int{-1, 0, 1}, extremes...) {
		if got, e := Remove(nil, at); e != api.ErrNone || len(got) != 0 {
			t.Errorf("Remove at %d of none is %v and %d", at, got, e)
		}
	}
}

func TestRemoveFromManyMaps(t *testing.T) {
	for n := range most + 1 {
		l := spread(n)
		for _, at := range asked(l) {
			remove(t, l, modelOf(t, l), at)
		}
		for i, m := range l {
			want := slices.Delete(slices.Clone(l), i, i+1)
			if got, e := Remove(l, m.At); e != api.OK || !slices.Equal(got, want) {
				t.Fatalf("Remove at %d of %d maps is %v and %d", m.At, n, got, e)
			}
		}
	}
}

func TestSegsByHand(t *testing.T) {
	for _, c := range []struct{ segs, want []uint64 }{
		{nil, nil},
		{[]uint64{1}, []uint64{1}},
		{[]uint64{greatest}, []uint64{greatest}},
		{[]uint64{1, greatest}, []uint64{1, greatest}},
		{[]uint64{greatest, 1}, []uint64{1, greatest}},
		{[]uint64{3, 3}, []uint64{3}},
		{[]uint64{3, 3, 3}, []uint64{3}},
		{[]uint64{3, 2, 3}, []uint64{2, 3}},
		{[]uint64{2, 3, 2}, []uint64{2, 3}},
		{[]uint64{5, 4, 3, 2, 1}, []uint64{1, 2, 3, 4, 5}},
		{[]uint64{1, 2, 3, 4, 5}, []uint64{1, 2, 3, 4, 5}},
		{[]uint64{1 << 63, 1<<63 - 1, 1<<32 + 1, 1, 1 << 32, 1 << 63}, []uint64{1, 1 << 32, 1<<32 + 1, 1<<63 - 1, 1 << 63}},
		{[]uint64{9, 7, 9, 8, 7, 7, 1, 9, 2, 2, 1, 8, 3, 3, 9, 7}, []uint64{1, 2, 3, 7, 8, 9}},
		{[]uint64{16, 15, 14, 13, 12, 11, 10, 9, 8, 7, 6, 5, 4, 3, 2, 1}, []uint64{1, 2, 3, 4, 5, 6, 7, 8, 9, 10, 11, 12, 13, 14, 15, 16}},
	} {
		l := spread(len(c.segs))
		for i := range l {
			l[i].Seg = c.segs[i]
		}
		g := guard(l)
		got := Segs(g.l)
		if !slices.Equal(got, c.want) {
			t.Errorf("Segs of %v is %v, not %v", c.segs, got, c.want)
		}
		for i := range got {
			got[i] = 0
		}
		g.whole(t, "Segs")
		if again := Segs(g.l); !slices.Equal(again, c.want) {
			t.Errorf("Segs of %v is %v the second time, not %v", c.segs, again, c.want)
		}
	}
}

func TestSegsOfAllShortLists(t *testing.T) {
	names := []uint64{1, 2, 3, greatest}
	var rest func(l []api.Map)
	rest = func(l []api.Map) {
		check(t, l, modelOf(t, l))
		if len(l) == 5 {
			return
		}
		for _, name := range names {
			rest(append(slices.Clone(l), api.Map{At: 3 * len(l), Seg: name, N: 1 + len(l)%3}))
		}
	}
	rest(nil)
}

// A random source gives the same numbers each time.
type random uint64

func (r *random) below(n int) int {
	*r = *r*6364136223846793005 + 1442695040888963407
	return int(uint64(*r)>>33) % n
}

// anyMap is one for a space of so many pages that are in use, seldom a wrong one.
func (r *random) anyMap(space int) api.Map {
	m := api.Map{Seg: uint64(1 + r.below(6)), N: 1 + r.below(16), Write: r.below(2) == 0}
	if r.below(3) > 0 {
		m.N = 1 + r.below(3)
	}
	m.At = r.below(space)
	if r.below(4) == 0 {
		m.At = count - 1 - m.At
	}
	m.From = r.below(17 - m.N)
	switch r.below(40) {
	case 0:
		m.N = counts[r.below(len(counts))]
	case 1:
		m.At = firsts[r.below(len(firsts))]
	case 2:
		m.From = froms[r.below(len(froms))]
	case 3:
		m.Seg = segs[r.below(len(segs))]
	}
	return m
}

func TestLongWays(t *testing.T) {
	r := random(15)
	full := 0
	for _, space := range []int{10, 30, 60, 200, count} {
		var l []api.Map
		s := new(model)
		for range 3000 {
			switch {
			case r.below(5) > 1:
				l = add(t, l, s, r.anyMap(space))
			case len(l) > 0 && r.below(2) == 0:
				l = remove(t, l, s, l[r.below(len(l))].At)
			default:
				pages := asked(l)
				l = remove(t, l, s, pages[r.below(len(pages))])
			}
			if len(l) == most {
				full++
			}
			check(t, l, s)
		}
	}
	if full < 100 {
		t.Fatalf("the maps were full only %d times", full)
	}
}

// What the calls answer for lists that are not those of a space is left open; they end, and change nothing.
func TestListsThatAreNotASpaces(t *testing.T) {
	r := random(3)
	for range 3000 {
		l := make([]api.Map, r.below(40))
		for i := range l {
			l[i] = api.Map{At: firsts[r.below(len(firsts))], Seg: segs[r.below(len(segs))], From: froms[r.below(len(froms))], N: counts[r.below(len(counts))]}
			if r.below(2) == 0 {
				l[i] = r.anyMap(40)
			}
		}
		g := guard(l)
		if Right(g.l) != rightMaps(l) {
			t.Fatalf("Right(%v) is %v", l, !rightMaps(l))
		}
		for _, page := range []int{firsts[r.below(len(firsts))], r.below(60)} {
			Find(g.l, page)
			if got, e := Remove(g.l, page); e != api.OK && len(got) != 0 {
				t.Fatalf("Remove(%v, %d) is %v and %d", l, page, got, e)
			}
		}
		if got, e := Add(g.l, r.anyMap(60)); e != api.OK && len(got) != 0 {
			t.Fatalf("Add to %v is %v and %d", l, got, e)
		}
		for _, m := range wrongs {
			if got, e := Add(g.l, m); e != api.ErrArg || len(got) != 0 {
				t.Fatalf("Add of %v to %v is %v and %d", m, l, got, e)
			}
		}
		Segs(g.l)
		g.whole(t, "calls on a list that is not a space's")
	}
}

// The chapter's example.
func TestExample(t *testing.T) {
	m := api.Map{At: 4, Seg: 1, N: 2}
	l, e := Add(nil, m)
	if e != api.OK {
		t.Fatal(e)
	}
	if got, ok := Find(l, 5); !ok || got != m {
		t.Fatal(got, ok)
	}
	if got, e := Add(l, api.Map{At: 5, Seg: 1, N: 2}); e != api.ErrArg || len(got) != 0 {
		t.Fatal(got, e)
	}
}
