package names

import (
	"math"
	"math/big"
	"slices"
	"testing"

	"glacis/api"
)

const (
	end      = 1 << 22 // MaxName, at which no range has a name any more
	greatest = math.MaxUint64
	most     = math.MaxInt
	least    = math.MinInt
)

// bounds are some that a range may have: small ones, those around MaxName and the powers of two, and those from which a sum overflows.
var bounds = []uint64{
	0, 1, 2, 3, 4, 9, 10, 11, 12, 13, 255, 256, end/2 - 1, end / 2, end/2 + 1, end - 11, end - 10, end - 3, end - 2, end - 1, end, end + 1, end + 2, 2 * end,
	math.MaxInt32, 1 << 31, math.MaxUint32, 1 << 32, 1<<32 + 1, 1<<32 + end, math.MaxInt64, 1 << 63, 1<<63 + 1, 1<<63 + end, greatest - end, greatest - end + 1, greatest - 10, greatest - 1, greatest,
}

// counts are some numbers of names to ask for.
var counts = []int{
	least, least + 1, least + 2, least + end, math.MinInt32, -2 * end, -end - 1, -end, -end + 1, -10, -2, -1,
	0, 1, 2, 3, 4, 9, 10, 11, 12, 255, 256, end / 2, end - 10, end - 3, end - 2, end - 1, end, end + 1, end + 2, 2 * end, math.MaxInt32, math.MaxUint32, 1 << 32, 1<<32 + 1, 1<<32 + end, most - end, most - 1, most,
}

// A model is what a range should be: how many names from lo on were given out, and how many behind them may still be.
type model struct {
	lo, given, left int64
}

// modelOf is the model of a valid range.
func modelOf(r Range) *model {
	return &model{int64(r.Lo), int64(r.Next) - int64(r.Lo), int64(r.Hi) - int64(r.Next)}
}

// asRange is the range that the model tells of.
func (m *model) asRange() Range {
	next := m.lo + m.given
	return Range{Lo: uint64(m.lo), Next: uint64(next), Hi: uint64(next + m.left)}
}

// take is the chapter's Take.
func (m *model) take() uint64 {
	if m.left == 0 {
		return 0
	}
	name := m.lo + m.given
	m.given++
	m.left--
	return uint64(name)
}

// split is the chapter's Split.
func (m *model) split(n int) (*model, bool) {
	if n < 0 || int64(n) > m.left {
		return nil, false
	}
	m.left -= int64(n)
	return &model{m.lo + m.given + m.left, 0, int64(n)}, true
}

// has is the chapter's Given, by a number that doesn't overflow.
func (m *model) has(name uint64) bool {
	place := new(big.Int).SetUint64(name)
	place.Sub(place, big.NewInt(m.lo))
	return place.Sign() >= 0 && place.Cmp(big.NewInt(m.given)) < 0
}

// rightRange is the chapter's valid range.
func rightRange(r Range) bool {
	return slices.IsSorted([]uint64{1, r.Lo, r.Next, r.Hi, end})
}

// asked are names to ask a range for: those of the list, and those around its bounds and in its middle.
func asked(r Range) []uint64 {
	all := slices.Clone(bounds)
	for _, x := range []uint64{r.Lo, r.Next, r.Hi, r.Lo + (r.Next-r.Lo)/2, r.Next + (r.Hi-r.Next)/2} {
		all = append(all, x-2, x-1, x, x+1, x+2)
	}
	slices.Sort(all)
	return slices.Compact(all)
}

// amounts are numbers of names to ask of a range: those of the list, and those around what it has.
func amounts(r Range) []int {
	all := slices.Clone(counts)
	for _, x := range []uint64{r.Lo, r.Next, r.Hi, r.Hi - r.Lo, r.Next - r.Lo, r.Hi - r.Next, (r.Hi - r.Next) / 2} {
		for d := -1; d <= 1; d++ {
			all = append(all, int(x)+d, -int(x)+d)
		}
	}
	slices.Sort(all)
	return slices.Compact(all)
}

// check holds everything that can be asked of a valid range against the model.
func check(t *testing.T, what string, r Range, m *model) {
	t.Helper()
	want := m.asRange()
	if !rightRange(want) {
		t.Fatalf("%s: the test asks for a range that is not valid: %v", what, want)
	}
	for range 2 {
		if r != want || !r.Right() {
			t.Fatalf("%s: the range is %v, Right is %v, not %v and true", what, r, r.Right(), want)
		}
		if got := r.Left(); int64(got) != m.left {
			t.Fatalf("%s: Left of %v is %d, not %d", what, r, got, m.left)
		}
	}
	for _, name := range []uint64{0, r.Lo - 1, r.Lo, r.Lo + 1, r.Next - 1, r.Next, r.Next + 1, r.Hi - 1, r.Hi, greatest} {
		if got := r.Given(name); got != m.has(name) {
			t.Fatalf("%s: Given(%d) of %v is %v", what, name, r, got)
		}
	}
}

// take and split do one call on a range and on its model, and hold them against one another.
func take(t *testing.T, what string, r *Range, m *model) uint64 {
	t.Helper()
	before := *r
	got, want := r.Take(), m.take()
	if got != want {
		t.Fatalf("%s: Take of %v is %d, not %d", what, before, got, want)
	}
	if got == 0 && *r != before {
		t.Fatalf("%s: Take of %v is 0, and changes it to %v", what, before, *r)
	}
	check(t, what, *r, m)
	return got
}

func split(t *testing.T, what string, r *Range, m *model, n int) (*Range, *model, bool) {
	t.Helper()
	before := *r
	part, ok := r.Split(n)
	parted, want := m.split(n)
	if ok != want {
		t.Fatalf("%s: Split(%d) of %v is %v", what, n, before, ok)
	}
	if !ok && (part != Range{} || *r != before) {
		t.Fatalf("%s: Split(%d) of %v is refused, with %v, and leaves %v", what, n, before, part, *r)
	}
	check(t, what, *r, m)
	if !ok {
		return nil, nil, false
	}
	check(t, what+", what Split returned", part, parted)
	return &part, parted, true
}

// made is New's range and its model.
func made(t *testing.T, what string, lo uint64, n int) (*Range, *model) {
	t.Helper()
	r, ok := New(lo, n)
	if !ok {
		t.Fatalf("%s: New(%d, %d) is refused", what, lo, n)
	}
	m := &model{int64(lo), 0, int64(n)}
	check(t, what, r, m)
	return &r, m
}

// valids are the valid ranges that the list's bounds make.
func valids() []Range {
	var all []Range
	for _, lo := range bounds {
		for _, next := range bounds {
			for _, hi := range bounds {
				if r := (Range{lo, next, hi}); rightRange(r) {
					all = append(all, r)
				}
			}
		}
	}
	return all
}

func TestMaxName(t *testing.T) {
	if api.MaxName != end {
		t.Errorf("MaxName is %d", api.MaxName)
	}
}

func TestExample(t *testing.T) {
	r, ok := New(2, 10)
	if !ok || r.Take() != 2 {
		t.Fatalf("New(2, 10) has become %v, %v", r, ok)
	}
	part, ok := r.Split(3)
	if !ok || part != (Range{9, 9, 12}) || r != (Range{2, 3, 9}) {
		t.Fatalf("Split(3) is %v, %v, and leaves %v", part, ok, r)
	}
	for _, want := range []uint64{9, 10, 11, 0} {
		if got := part.Take(); got != want {
			t.Errorf("Take of what was split off is %d, not %d", got, want)
		}
	}
}

func TestNew(t *testing.T) {
	done := 0
	for _, lo := range bounds {
		var around []int
		for d := -2; d <= 2; d++ {
			around = append(around, int(end-lo)+d, int(lo)+d)
		}
		for _, n := range append(around, counts...) {
			r, ok := New(lo, n)
			hi := new(big.Int).SetUint64(lo)
			hi.Add(hi, big.NewInt(int64(n)))
			want := lo >= 1 && n >= 0 && hi.Cmp(big.NewInt(end)) <= 0
			if ok != want {
				t.Fatalf("New(%d, %d) is %v", lo, n, ok)
			}
			if !ok && r != (Range{}) {
				t.Fatalf("New(%d, %d) is refused, with %v", lo, n, r)
			}
			if ok {
				check(t, "New", r, &model{int64(lo), 0, int64(n)})
				done++
			}
		}
	}
	if done < 100 {
		t.Errorf("only %d were valid", done)
	}
}

// TestNewByHand has the edges of both numbers, with answers that are worked out by hand.
func TestNewByHand(t *testing.T) {
	for _, c := range []struct {
		lo   uint64
		n    int
		want bool
	}{
		{0, 0, false}, {0, 1, false}, {0, -1, false}, {0, end, false}, {0, most, false}, {0, least, false},
		{1, 0, true}, {1, 1, true}, {1, end - 2, true}, {1, end - 1, true}, {1, end, false}, {1, end + 1, false},
		{1, -1, false}, {1, most, false}, {1, least, false}, {1, least + 1, false},
		{2, 10, true}, {2, end - 2, true}, {2, end - 1, false}, {2, -1, false}, {2, -2, false},
		{end / 2, end / 2, true}, {end / 2, end/2 + 1, false}, {end / 2, -end / 2, false},
		{end - 1, 0, true}, {end - 1, 1, true}, {end - 1, 2, false}, {end - 1, -1, false},
		{end, 0, true}, {end, 1, false}, {end, -1, false}, {end, 1 - end, false}, {end, most, false}, {end, least, false},
		{end + 1, 0, false}, {end + 1, 1, false}, {end + 1, -1, false}, {end + 1, -2, false}, {end + 1, -end, false}, {end + 1, most, false}, {end + 1, least, false},
		{1 << 32, 0, false}, {1 << 32, 1, false}, {1<<32 + 1, 1, false},
		{1 << 63, 0, false}, {1 << 63, least, false}, {1<<63 + 1, least, false}, {1<<63 + 5, least + 5, false},
		{greatest, 0, false}, {greatest, 1, false}, {greatest, 2, false}, {greatest, 3, false}, {greatest, -1, false}, {greatest, most, false}, {greatest, least, false},
		{greatest - 9, 20, false}, {greatest - most, most, false}, {greatest - most + 1, most, false}, {greatest - most + 2, most, false},
	} {
		want := Range{}
		if c.want {
			want = Range{c.lo, c.lo, c.lo + uint64(c.n)}
		}
		if r, ok := New(c.lo, c.n); ok != c.want || r != want {
			t.Errorf("New(%d, %d) is %v, %v", c.lo, c.n, r, ok)
		}
	}
}

func TestRight(t *testing.T) {
	right := 0
	for _, lo := range bounds {
		for _, next := range bounds {
			for _, hi := range bounds {
				r := Range{lo, next, hi}
				if got := r.Right(); got != rightRange(r) {
					t.Fatalf("Right of %v is %v", r, got)
				}
				if r != (Range{lo, next, hi}) {
					t.Fatalf("Right makes %v of %d, %d and %d", r, lo, next, hi)
				}
				if r.Right() {
					right++
				}
			}
		}
	}
	if right < 1000 {
		t.Errorf("only %d are valid", right)
	}
}

// TestRightByHand has the edges of each bound, with answers that are worked out by hand.
func TestRightByHand(t *testing.T) {
	for _, c := range []struct {
		r    Range
		want bool
	}{
		{Range{}, false},
		{Range{0, 0, 1}, false},
		{Range{0, 1, 1}, false},
		{Range{0, 1, end}, false},
		{Range{1, 0, 1}, false},
		{Range{1, 1, 0}, false},
		{Range{1, 1, 1}, true},
		{Range{1, 1, 2}, true},
		{Range{1, 2, 1}, false},
		{Range{1, 2, 2}, true},
		{Range{2, 1, 2}, false},
		{Range{2, 2, 1}, false},
		{Range{5, 7, 9}, true},
		{Range{5, 4, 9}, false},
		{Range{5, 5, 9}, true},
		{Range{5, 9, 9}, true},
		{Range{5, 10, 9}, false},
		{Range{9, 7, 5}, false},
		{Range{1, 1, end - 1}, true},
		{Range{1, 1, end}, true},
		{Range{1, 1, end + 1}, false},
		{Range{1, end, end}, true},
		{Range{end, end, end}, true},
		{Range{end, end, end + 1}, false},
		{Range{end, end + 1, end}, false},
		{Range{end, end + 1, end + 1}, false},
		{Range{end + 1, end, end}, false},
		{Range{end + 1, end + 1, end}, false},
		{Range{end + 1, end + 1, end + 1}, false},
		{Range{1, 1, greatest}, false},
		{Range{1, greatest, greatest}, false},
		{Range{1, greatest, 2}, false},
		{Range{greatest, 1, 2}, false},
		{Range{greatest, greatest, greatest}, false},
		{Range{1, 1, 1<<32 + 1}, false},
		{Range{1, 1, 1<<63 + 1}, false},
	} {
		if got := c.r.Right(); got != c.want {
			t.Errorf("Right of %v is %v", c.r, got)
		}
	}
}

func TestLeft(t *testing.T) {
	for _, r := range valids() {
		check(t, "Left", r, modelOf(r))
	}
	for _, c := range []struct {
		r    Range
		want int
	}{
		{Range{1, 1, 1}, 0},
		{Range{1, 1, 2}, 1},
		{Range{1, 2, 2}, 0},
		{Range{5, 5, 9}, 4},
		{Range{5, 6, 9}, 3},
		{Range{5, 8, 9}, 1},
		{Range{5, 9, 9}, 0},
		{Range{1, 1, end}, end - 1},
		{Range{1, 2, end}, end - 2},
		{Range{1, end - 1, end}, 1},
		{Range{1, end, end}, 0},
		{Range{end, end, end}, 0},
	} {
		if got := c.r.Left(); got != c.want {
			t.Errorf("Left of %v is %d, not %d", c.r, got, c.want)
		}
	}
}

// TestTake takes till there is none, and 0 from then on.
func TestTake(t *testing.T) {
	for _, lo := range []uint64{1, 2, 10, end - 300, end - 4, end - 1, end} {
		for _, n := range []int{0, 1, 2, 3, 4, 300} {
			if lo+uint64(n) > end {
				continue
			}
			r, m := made(t, "take", lo, n)
			for i := range n {
				if got := take(t, "take", r, m); got != lo+uint64(i) {
					t.Fatalf("Take %d from %d on is %d", i, lo, got)
				}
			}
			hi := lo + uint64(n)
			for range 5 {
				if got := take(t, "take", r, m); got != 0 || *r != (Range{lo, hi, hi}) {
					t.Fatalf("Take of none is %d, the range is %v", got, *r)
				}
			}
		}
	}
	for _, r := range valids() {
		take(t, "of all that are valid", &r, modelOf(r))
	}
}

// TestTakeAll gives out all names that there are.
func TestTakeAll(t *testing.T) {
	r, ok := New(1, end-1)
	if !ok {
		t.Fatal("New(1, MaxName - 1) is refused")
	}
	for want := uint64(1); want < end; want++ {
		if got := r.Take(); got != want || r.Left() != int(end-1-want) {
			t.Fatalf("Take is %d, Left is %d behind it, the name is %d", got, r.Left(), want)
		}
	}
	if got := r.Take(); got != 0 || r != (Range{1, end, end}) {
		t.Errorf("Take of none is %d, the range is %v", got, r)
	}
}

// TestSplitByHand has single calls with their answers, and the range behind them, worked out by hand.
func TestSplitByHand(t *testing.T) {
	for _, c := range []struct {
		r    Range
		n    int
		ok   bool
		part Range
		then Range
	}{
		{Range{5, 7, 12}, 0, true, Range{12, 12, 12}, Range{5, 7, 12}},
		{Range{5, 7, 12}, 1, true, Range{11, 11, 12}, Range{5, 7, 11}},
		{Range{5, 7, 12}, 4, true, Range{8, 8, 12}, Range{5, 7, 8}},
		{Range{5, 7, 12}, 5, true, Range{7, 7, 12}, Range{5, 7, 7}},
		{Range{5, 7, 12}, 6, false, Range{}, Range{5, 7, 12}},
		{Range{5, 7, 12}, 7, false, Range{}, Range{5, 7, 12}},
		{Range{5, 7, 12}, -1, false, Range{}, Range{5, 7, 12}},
		{Range{5, 7, 12}, most, false, Range{}, Range{5, 7, 12}},
		{Range{5, 7, 12}, least, false, Range{}, Range{5, 7, 12}},
		{Range{5, 7, 12}, 1<<32 + 1, false, Range{}, Range{5, 7, 12}},
		{Range{5, 5, 12}, 7, true, Range{5, 5, 12}, Range{5, 5, 5}},
		{Range{5, 5, 12}, 8, false, Range{}, Range{5, 5, 12}},
		{Range{5, 12, 12}, 0, true, Range{12, 12, 12}, Range{5, 12, 12}},
		{Range{5, 12, 12}, 1, false, Range{}, Range{5, 12, 12}},
		{Range{5, 12, 12}, -1, false, Range{}, Range{5, 12, 12}},
		{Range{1, 1, 1}, 0, true, Range{1, 1, 1}, Range{1, 1, 1}},
		{Range{1, 1, 1}, 1, false, Range{}, Range{1, 1, 1}},
		{Range{1, 1, 1}, -1, false, Range{}, Range{1, 1, 1}},
		{Range{1, 1, end}, end - 1, true, Range{1, 1, end}, Range{1, 1, 1}},
		{Range{1, 1, end}, end, false, Range{}, Range{1, 1, end}},
		{Range{1, 1, end}, 1, true, Range{end - 1, end - 1, end}, Range{1, 1, end - 1}},
		{Range{1, 1, end}, 0, true, Range{end, end, end}, Range{1, 1, end}},
		{Range{end, end, end}, 0, true, Range{end, end, end}, Range{end, end, end}},
		{Range{end, end, end}, 1, false, Range{}, Range{end, end, end}},
	} {
		r := c.r
		if part, ok := r.Split(c.n); ok != c.ok || part != c.part || r != c.then {
			t.Errorf("Split(%d) of %v is %v, %v, and leaves %v", c.n, c.r, part, ok, r)
		}
	}
}

// TestSplit asks each valid range for each number of names.
func TestSplit(t *testing.T) {
	done := 0
	for _, r := range valids() {
		for _, n := range amounts(r) {
			q := r
			if _, _, ok := split(t, "split", &q, modelOf(q), n); ok {
				done++
			}
		}
	}
	if done < 1000 {
		t.Errorf("only %d were done", done)
	}
}

// TestWhatThereIs asks each valid range for just what is left, and for more ahead of it and behind it.
func TestWhatThereIs(t *testing.T) {
	for _, r := range valids() {
		q, m := r, modelOf(r)
		left := r.Left()
		for _, n := range []int{left + 1, -1, most, least} {
			if _, _, ok := split(t, "more than there is", &q, m, n); ok {
				t.Fatalf("Split(%d) of %v", n, r)
			}
		}
		part, parted, ok := split(t, "what there is", &q, m, left)
		if !ok || *part != (Range{r.Next, r.Next, r.Hi}) || q != (Range{r.Lo, r.Next, r.Next}) {
			t.Fatalf("Split(%d) of %v is %v, and leaves %v", left, r, ok, q)
		}
		if _, _, ok := split(t, "of none", &q, m, 1); ok || take(t, "of none", &q, m) != 0 {
			t.Fatalf("%v gives names that it has no more", q)
		}
		// And the same of what went over.
		if _, _, ok := split(t, "of what went over", part, parted, left+1); ok {
			t.Fatalf("Split(%d) of %v", left+1, *part)
		}
		if _, _, ok := split(t, "of what went over", part, parted, left); !ok {
			t.Fatalf("Split(%d) of %v is refused", left, *part)
		}
	}
}

func TestGivenByHand(t *testing.T) {
	r := Range{5, 8, 12}
	for _, c := range []struct {
		name uint64
		want bool
	}{
		{0, false}, {1, false}, {3, false}, {4, false}, {5, true}, {6, true}, {7, true}, {8, false}, {9, false}, {11, false}, {12, false}, {13, false},
		{end - 1, false}, {end, false}, {end + 1, false}, {1<<32 + 6, false}, {1<<63 + 6, false}, {greatest - 6, false}, {greatest, false},
	} {
		if got := r.Given(c.name); got != c.want {
			t.Errorf("Given(%d) is %v", c.name, got)
		}
	}
	if r != (Range{5, 8, 12}) {
		t.Errorf("Given made %v", r)
	}
}

func TestGiven(t *testing.T) {
	for _, r := range valids() {
		m := modelOf(r)
		for _, name := range asked(r) {
			if got := r.Given(name); got != m.has(name) {
				t.Fatalf("Given(%d) of %v is %v", name, r, got)
			}
		}
	}
}

// TestGivenAndSplit asks for each name around a range, while its names are given out and go over.
func TestGivenAndSplit(t *testing.T) {
	r, ok := New(4, 20)
	if !ok {
		t.Fatal("New(4, 20) is refused")
	}
	given := map[uint64]bool{}
	for r.Left() > 0 {
		name := r.Take()
		if given[name] {
			t.Fatalf("%d is given out twice", name)
		}
		given[name] = true
		part, ok := r.Split(r.Left() / 5)
		if !ok {
			t.Fatalf("Split of a fifth of %v is refused", r)
		}
		part.Take()
		for name := range uint64(30) {
			if got := r.Given(name); got != given[name] {
				t.Fatalf("Given(%d) of %v is %v", name, r, got)
			}
		}
	}
	if len(given) < 5 {
		t.Errorf("only %d were given out", len(given))
	}
}

// A family is a range and all that were split from it, with the names that they gave out.
type family struct {
	lo     uint64
	ranges []*Range
	models []*model
	given  []bool // by names from lo on
}

func familyOf(t *testing.T, lo uint64, n int) *family {
	t.Helper()
	r, m := made(t, "family", lo, n)
	return &family{lo, []*Range{r}, []*model{m}, make([]bool, n)}
}

// takeFrom takes a name from range i, which no other one gave.
func (f *family) takeFrom(t *testing.T, i int) uint64 {
	t.Helper()
	name := take(t, "family", f.ranges[i], f.models[i])
	if name == 0 {
		return 0
	}
	place := name - f.lo
	if place >= uint64(len(f.given)) || f.given[place] {
		t.Fatalf("%v gives out %d, which was given out, or is none of the family's", *f.ranges[i], name)
	}
	f.given[place] = true
	return name
}

// splitFrom splits n names off range i.
func (f *family) splitFrom(t *testing.T, i, n int) bool {
	t.Helper()
	part, parted, ok := split(t, "family", f.ranges[i], f.models[i], n)
	if ok {
		f.ranges, f.models = append(f.ranges, part), append(f.models, parted)
	}
	return ok
}

// sound holds each name against the ranges: given by just one of them if it was given out, else by none, and had by just one of them.
func (f *family) sound(t *testing.T) {
	t.Helper()
	left := 0
	for i, r := range f.ranges {
		check(t, "family", *r, f.models[i])
		left += r.Left()
	}
	for place, given := range f.given {
		name, gave, has := f.lo+uint64(place), 0, 0
		for _, r := range f.ranges {
			if r.Given(name) {
				gave++
			}
			if r.Lo <= name && name < r.Hi {
				has++
			}
		}
		if given {
			left++
		}
		if given && gave != 1 || !given && gave != 0 || has != 1 {
			t.Fatalf("%d is given out: %v, given by %d ranges, had by %d", name, given, gave, has)
		}
	}
	if left != len(f.given) {
		t.Fatalf("%d of %d names are left, or given out", left, len(f.given))
	}
}

// emptied takes all names that are left: then each one was given out.
func (f *family) emptied(t *testing.T) {
	t.Helper()
	for i := range f.ranges {
		for f.takeFrom(t, i) != 0 {
		}
	}
	if i := slices.Index(f.given, false); i >= 0 {
		t.Fatalf("%d was never given out", f.lo+uint64(i))
	}
	f.sound(t)
}

// TestChain splits each range off the last one, and takes one name of each.
func TestChain(t *testing.T) {
	for _, lo := range []uint64{1, 2, 1000, end - 60} {
		for _, kept := range []int{0, 1, 2, 5} {
			f := familyOf(t, lo, 60)
			for range 20 {
				last := len(f.ranges) - 1
				f.takeFrom(t, last)
				f.splitFrom(t, last, max(f.ranges[last].Left()-kept, 0))
				f.sound(t)
			}
			f.emptied(t)
		}
	}
}

// TestFan splits all ranges off one, from the highest names on.
func TestFan(t *testing.T) {
	f := familyOf(t, 7, 40)
	for i := range 9 {
		if !f.splitFrom(t, 0, i) || *f.ranges[i+1] != (Range{47 - uint64(i*(i+1)/2), 47 - uint64(i*(i+1)/2), 47 - uint64(i*(i-1)/2)}) {
			t.Fatalf("range %d is %v", i, *f.ranges[len(f.ranges)-1])
		}
		f.sound(t)
	}
	if f.ranges[0].Left() != 4 || f.splitFrom(t, 0, 5) || !f.splitFrom(t, 0, 4) {
		t.Fatalf("what is left is %v", *f.ranges[0])
	}
	f.emptied(t)
}

// TestAllWays goes all ways of six calls on a range of few names, and on all that are split from it.
func TestAllWays(t *testing.T) {
	for _, lo := range []uint64{1, 50, end - 4} {
		goOn(t, lo, []Range{{lo, lo, lo + 4}}, nil, 6)
	}
}

func goOn(t *testing.T, lo uint64, ranges []Range, given []uint64, left int) {
	if left == 0 {
		all := slices.Clone(given)
		for _, r := range ranges {
			for name := r.Take(); name != 0; name = r.Take() {
				all = append(all, name)
			}
		}
		slices.Sort(all)
		if !slices.Equal(all, []uint64{lo, lo + 1, lo + 2, lo + 3}) {
			t.Fatalf("%v, behind %v, give %v", ranges, given, all)
		}
		return
	}
	for i, r := range ranges {
		next := slices.Clone(ranges)
		if name := take(t, "all ways", &next[i], modelOf(r)); name != 0 {
			goOn(t, lo, next, append(slices.Clone(given), name), left-1)
		}
		for n := range 5 {
			next := slices.Clone(ranges)
			if part, _, ok := split(t, "all ways", &next[i], modelOf(r), n); ok && (n > 0 || len(ranges) < 3) {
				goOn(t, lo, append(next, *part), given, left-1)
			}
		}
	}
	goOn(t, lo, ranges, given, 0)
}

// A rule draws numbers by a short one.
type rule uint64

func (r *rule) draw(n int) int {
	*r = *r*6364136223846793005 + 1442695040888963407
	return int(uint64(*r)>>33) % n
}

// amount is a number to ask of a range: mostly one that is possible, or nearly.
func (r *rule) amount(left int) int {
	some := []int{0, 1, 2, left / 2, left / 3, left - 1, left, left + 1, -1, least, most, end}
	return some[r.draw(len(some))]
}

// TestLongWay goes long ways with families of ranges.
func TestLongWay(t *testing.T) {
	for i, c := range []struct {
		lo uint64
		n  int
	}{{1, 0}, {1, 1}, {1, 100}, {2, 399}, {77, 400}, {end / 2, 400}, {end - 400, 400}, {end - 1, 1}, {end, 0}} {
		r := rule(i)
		f := familyOf(t, c.lo, c.n)
		taken, done, refused := 0, 0, 0
		for range 1500 {
			x := r.draw(len(f.ranges))
			if r.draw(3) == 0 {
				if f.takeFrom(t, x) != 0 {
					taken++
				}
				continue
			}
			switch ok := f.splitFrom(t, x, r.amount(f.ranges[x].Left())); {
			case ok:
				done++
			default:
				refused++
			}
			if len(f.ranges) > 60 {
				break
			}
		}
		f.sound(t)
		f.emptied(t)
		if done < 50 || refused < 10 || c.n > 1 && taken < 5 {
			t.Errorf("New(%d, %d): %d taken, %d split, %d refused", c.lo, c.n, taken, done, refused)
		}
	}
}

// TestWhole splits all names that there are into ranges of all sizes, which give each name once.
func TestWhole(t *testing.T) {
	r, ok := New(1, end-1)
	if !ok {
		t.Fatal("New(1, MaxName - 1) is refused")
	}
	ranges := []Range{r}
	for i := 0; len(ranges) < 200; i++ {
		part, ok := ranges[i].Split(ranges[i].Left() / 3)
		rest, also := ranges[i].Split(ranges[i].Left() / 2)
		if !ok || !also {
			t.Fatalf("Split of parts of %v is refused", ranges[i])
		}
		ranges = append(ranges, part, rest)
	}
	given := make([]bool, end)
	for _, r := range ranges {
		for name := r.Take(); name != 0; name = r.Take() {
			if name >= end || given[name] {
				t.Fatalf("%v gives out %d", r, name)
			}
			given[name] = true
		}
	}
	if given[0] || slices.Contains(given[1:], false) {
		t.Error("0 was given out, or one name was not")
	}
}

// TestApart: a copy of a range has nothing in common with it, and Right, Left and Given are asked of values.
func TestApart(t *testing.T) {
	r := Range{5, 7, 12}
	q := r
	take(t, "a copy", &q, modelOf(q))
	split(t, "a copy", &q, modelOf(q), 2)
	if r != (Range{5, 7, 12}) {
		t.Errorf("a copy's call changed %v", r)
	}
	ranges := map[string]Range{"a": {5, 7, 12}}
	if !ranges["a"].Right() || ranges["a"].Left() != 5 || !ranges["a"].Given(6) {
		t.Error("a map's range can't be asked")
	}
	var embeds struct {
		Range
		Name uint64
	}
	embeds.Range = Range{1, 1, 3}
	if embeds.Take() != 1 || embeds.Left() != 1 || !embeds.Right() || !embeds.Given(1) {
		t.Errorf("embedded: %v", embeds)
	}
}

// TestFieldsSet: the bounds may be set from outside to valid values.
func TestFieldsSet(t *testing.T) {
	r, m := made(t, "set", 10, 5)
	take(t, "set", r, m)
	r.Next, m.given, m.left = 13, 3, 2
	take(t, "set", r, m)
	r.Hi, m.left = 20, 6
	take(t, "set", r, m)
	split(t, "set", r, m, 2)
	r.Lo, m.lo, m.given = 2, 2, 13
	take(t, "set", r, m)
	r.Next, m.given, m.left = 3, 1, 15
	take(t, "set", r, m)
	if *r != (Range{2, 4, 18}) {
		t.Errorf("the range is %v", *r)
	}
}

// TestInvalid: what ranges answer that are not valid is left open, but they answer.
func TestInvalid(t *testing.T) {
	for _, lo := range bounds {
		for _, next := range bounds {
			for _, hi := range bounds {
				for _, n := range []int{least, -1, 0, 1, end, most} {
					r := Range{lo, next, hi}
					r.Take()
					r.Split(n)
					r.Take()
					r.Left()
					r.Given(lo)
					r.Right()
				}
			}
		}
	}
}

// TestNil: what a range answers that is none is left open, but it answers.
func TestNil(t *testing.T) {
	var none *Range
	for _, n := range counts {
		if part, ok := none.Split(n); ok || part != (Range{}) || none.Take() != 0 {
			t.Fatalf("no range gives names: Split(%d) is %v, %v", n, part, ok)
		}
	}
}
