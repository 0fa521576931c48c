package calls

import (
	"math"
	"slices"
	"strconv"
	"strings"
	"testing"
)

// chapter is the chapter's list of calls, word for word.
const chapter = "catnew, selflabel, selfclear, self, labelof :1, contnew 1:, segnew 1:, spacenew 1:, threadnew 1:, gatenew 1:, unref 1 2:, stat :1, list :1, quota :1, move 1 2:, resize 1:, read :1, write 1:, copy 1:3, map 1:3, unmap 1:, use :1, enter :1, halt, start 1:, wait :1, wake 1:, alert 1:, alertget, devread 1:, devwrite 1:, clock, yield, setinfo 1:, info :1, mapat :1, homeof :1, owned, level :1, rights :1"

// A row is a call as the chapter tells it, written out apart from the code: its constant, the number that this must have, and its Spec.
type row struct {
	constant uint64
	number   uint64
	spelt    string
	name     string
	changes  []int
	reads    []int
}

// rows are all calls, made anew each time, so that no test can spoil them for another.
func rows() []row {
	return []row{
		{CatNew, 1, "CatNew", "catnew", nil, nil},
		{SelfLabel, 2, "SelfLabel", "selflabel", nil, nil},
		{SelfClear, 3, "SelfClear", "selfclear", nil, nil},
		{Self, 4, "Self", "self", nil, nil},
		{LabelOf, 5, "LabelOf", "labelof", nil, []int{1}},
		{ContNew, 6, "ContNew", "contnew", []int{1}, nil},
		{SegNew, 7, "SegNew", "segnew", []int{1}, nil},
		{SpaceNew, 8, "SpaceNew", "spacenew", []int{1}, nil},
		{ThreadNew, 9, "ThreadNew", "threadnew", []int{1}, nil},
		{GateNew, 10, "GateNew", "gatenew", []int{1}, nil},
		{Unref, 11, "Unref", "unref", []int{1, 2}, nil},
		{Stat, 12, "Stat", "stat", nil, []int{1}},
		{List, 13, "List", "list", nil, []int{1}},
		{Quota, 14, "Quota", "quota", nil, []int{1}},
		{Move, 15, "Move", "move", []int{1, 2}, nil},
		{Resize, 16, "Resize", "resize", []int{1}, nil},
		{Read, 17, "Read", "read", nil, []int{1}},
		{Write, 18, "Write", "write", []int{1}, nil},
		{Copy, 19, "Copy", "copy", []int{1}, []int{3}},
		{Map, 20, "Map", "map", []int{1}, []int{3}},
		{Unmap, 21, "Unmap", "unmap", []int{1}, nil},
		{Use, 22, "Use", "use", nil, []int{1}},
		{Enter, 23, "Enter", "enter", nil, []int{1}},
		{Halt, 24, "Halt", "halt", nil, nil},
		{Start, 25, "Start", "start", []int{1}, nil},
		{Wait, 26, "Wait", "wait", nil, []int{1}},
		{Wake, 27, "Wake", "wake", []int{1}, nil},
		{Alert, 28, "Alert", "alert", []int{1}, nil},
		{AlertGet, 29, "AlertGet", "alertget", nil, nil},
		{DevRead, 30, "DevRead", "devread", []int{1}, nil},
		{DevWrite, 31, "DevWrite", "devwrite", []int{1}, nil},
		{Clock, 32, "Clock", "clock", nil, nil},
		{Yield, 33, "Yield", "yield", nil, nil},
		{SetInfo, 34, "SetInfo", "setinfo", []int{1}, nil},
		{Info, 35, "Info", "info", nil, []int{1}},
		{MapAt, 36, "MapAt", "mapat", nil, []int{1}},
		{HomeOf, 37, "HomeOf", "homeof", nil, []int{1}},
		{Owned, 38, "Owned", "owned", nil, nil},
		{Level, 39, "Level", "level", nil, []int{1}},
		{Rights, 40, "Rights", "rights", nil, []int{1}},
	}
}

// A random source gives the same numbers each time.
type random uint64

func (r *random) next() uint64 {
	*r = *r*6364136223846793005 + 1442695040888963407
	return uint64(*r ^ *r>>33)
}

func same(s Spec, want row) bool {
	return s.Name == want.name && slices.Equal(s.Changes, want.changes) && slices.Equal(s.Reads, want.reads)
}

// check holds what Of tells of a number, whichever, against the rows.
func check(t *testing.T, n uint64) Spec {
	t.Helper()
	s, ok := Of(n)
	for _, want := range rows() {
		if want.number != n {
			continue
		}
		if !ok || !same(s, want) {
			t.Fatalf("Of(%d) is %v, %v, not %v", n, s, ok, want)
		}
		return s
	}
	if ok || s.Name != "" || len(s.Changes) != 0 || len(s.Reads) != 0 {
		t.Fatalf("Of(%d) is %v, %v, though there is no such call", n, s, ok)
	}
	return s
}

// spoil changes all that was returned, also behind the lists' ends, where appending would.
func spoil(s Spec) {
	for _, l := range [][]int{s.Changes, s.Reads} {
		l = l[:cap(l)]
		for i := range l {
			l[i] = -77
		}
	}
}

func TestNumbers(t *testing.T) {
	for i, c := range rows() {
		if c.constant != c.number || c.number != uint64(i)+1 {
			t.Errorf("%s is %d, not %d", c.spelt, c.constant, i+1)
		}
		if strings.ToLower(c.spelt) != c.name {
			t.Errorf("%s stands at %s", c.spelt, c.name)
		}
	}
	if Count != 40 || len(rows()) != 40 {
		t.Errorf("there are %d calls, and %d rows", Count, len(rows()))
	}
}

// TestConstants has each constant as a number of several kinds, as it has none of its own.
func TestConstants(t *testing.T) {
	var (
		a byte    = Rights
		b int64   = Count
		c uint64  = CatNew
		d float64 = Yield
	)
	if a != 40 || b != 40 || c != 1 || d != 33 {
		t.Error(a, b, c, d)
	}
}

func TestOf(t *testing.T) {
	for n := uint64(1); n <= Count; n++ {
		check(t, n)
	}
	for _, c := range rows() {
		if s, ok := Of(c.constant); !ok || !same(s, c) {
			t.Errorf("Of(%s) is %v, %v, not %v", c.spelt, s, ok, c)
		}
	}
}

// TestChapter tells the calls as the chapter does, and so holds the rows against it, too.
func TestChapter(t *testing.T) {
	var told []string
	for n := uint64(1); n <= Count; n++ {
		s := check(t, n)
		text := s.Name
		if len(s.Changes) > 0 || len(s.Reads) > 0 {
			text += " " + registers(s.Changes) + ":" + registers(s.Reads)
		}
		told = append(told, text)
	}
	want := strings.Split(chapter, ", ")
	for i, text := range told {
		if i >= len(want) || want[i] != text {
			t.Errorf("call %d is told as %q", i+1, text)
		}
	}
	if got := strings.Join(told, ", "); got != chapter {
		t.Errorf("the calls are %s", got)
	}
}

func registers(l []int) string {
	var words []string
	for _, x := range l {
		words = append(words, strconv.Itoa(x))
	}
	return strings.Join(words, " ")
}

// TestExample is the chapter's.
func TestExample(t *testing.T) {
	s, ok := Of(1)
	if !ok || s.Name != "catnew" || len(s.Changes) != 0 || len(s.Reads) != 0 {
		t.Errorf("Of(1) is %v, %v", s, ok)
	}
}

func TestNone(t *testing.T) {
	for _, n := range []uint64{0, 41, 42, 43, 47, 48, 49, 99, 100, 255, 256, 1000, math.MaxInt32, math.MaxUint32, math.MaxInt64, math.MaxUint64 - 1, math.MaxUint64} {
		if s, ok := Of(n); ok || s.Name != "" || len(s.Changes) != 0 || len(s.Reads) != 0 {
			t.Errorf("Of(%d) is %v, %v", n, s, ok)
		}
	}
	for n := range uint64(1 << 12) {
		check(t, n)
	}
	// A number that has a call's lowest bits, or is a call's negated, is none.
	for p := range 64 {
		for n := range uint64(50) {
			check(t, 1<<p+n)
			check(t, 1<<p-n)
			check(t, n<<p)
			check(t, math.MaxUint64<<p|n)
			check(t, math.MaxUint64<<p-n)
		}
		check(t, ^uint64(1<<p))
	}
}

func TestDrawn(t *testing.T) {
	r := random(21)
	calls := 0
	for range 200000 {
		n := r.next()
		check(t, n)
		n >>= r.next() % 64
		if check(t, n).Name != "" {
			calls++
		}
	}
	if calls < 1000 {
		t.Errorf("only %d of the drawn numbers were calls", calls)
	}
}

func TestNames(t *testing.T) {
	numbers := map[string]uint64{}
	for n := uint64(1); n <= Count; n++ {
		s, _ := Of(n)
		if other := numbers[s.Name]; other != 0 {
			t.Errorf("calls %d and %d are both %q", other, n, s.Name)
		}
		numbers[s.Name] = n
		if s.Name == "" || strings.Trim(s.Name, "abcdefghijklmnopqrstuvwxyz") != "" {
			t.Errorf("call %d is %q", n, s.Name)
		}
	}
}

func TestRegisters(t *testing.T) {
	for n := uint64(1); n <= Count; n++ {
		s, _ := Of(n)
		all := slices.Concat(s.Changes, s.Reads)
		for i, x := range all {
			if x < 1 || x > 5 {
				t.Errorf("%s names register %d", s.Name, x)
			}
			if slices.Contains(all[:i], x) {
				t.Errorf("%s names register %d twice", s.Name, x)
			}
		}
		if !slices.IsSorted(s.Changes) || !slices.IsSorted(s.Reads) {
			t.Errorf("%s has registers in the order %v:%v", s.Name, s.Changes, s.Reads)
		}
	}
}

// TestSpoiled changes what was returned for each call, and appends to it, and asks for all calls behind it.
func TestSpoiled(t *testing.T) {
	for n := uint64(0); n <= Count+1; n++ {
		earlier, _ := Of(n)
		s := check(t, n)
		s.Changes = append(s.Changes, 6, 7, 8)
		s.Reads = append(s.Reads, 9)
		spoil(s)
		s = check(t, n)
		s.Name = "spoilt"
		_ = append(s.Changes, 9)
		_ = append(s.Reads, 9)
		_ = append(s.Changes[:0], 9, 9)
		_ = append(s.Reads[:0], 9, 9)
		spoil(s)
		for m := uint64(0); m <= Count+1; m++ {
			check(t, m)
		}
		// What was returned ahead of the spoilt ones is as it was.
		if n >= 1 && n <= Count && !same(earlier, rows()[n-1]) {
			t.Errorf("what Of(%d) told has become %v", n, earlier)
		}
	}
}

// TestLists spoils one list of each answer, of all that were returned, and looks at the others.
func TestLists(t *testing.T) {
	for _, want := range rows() {
		a := check(t, want.number)
		spoil(Spec{Changes: a.Changes})
		if !slices.Equal(a.Reads, want.reads) {
			t.Errorf("%s: Reads has become %v with Changes", want.name, a.Reads)
		}
		b := check(t, want.number)
		spoil(Spec{Reads: b.Reads})
		if !slices.Equal(b.Changes, want.changes) {
			t.Errorf("%s: Changes has become %v with Reads", want.name, b.Changes)
		}
	}
	for i := range rows() {
		var all []Spec
		for n := uint64(1); n <= Count; n++ {
			all = append(all, check(t, n))
		}
		spoil(all[i])
		for j, want := range rows() {
			if j != i && !same(all[j], want) {
				t.Errorf("%s has become %v with %s", want.name, all[j], all[i].Name)
			}
		}
	}
}

// TestOrders asks for all pairs of numbers, with ones that are no calls among them, for all numbers up and down, and in drawn orders.
func TestOrders(t *testing.T) {
	numbers := []uint64{0, Count + 1, 1 << 32, 1<<32 + 1, 1 << 63, math.MaxUint64}
	for n := uint64(1); n <= Count; n++ {
		numbers = append(numbers, n)
	}
	for _, n := range numbers {
		for _, m := range numbers {
			check(t, n)
			check(t, m)
			check(t, n)
		}
	}
	for range 3 {
		for _, n := range numbers {
			check(t, n)
		}
		slices.Reverse(numbers)
	}
	r := random(7)
	for range 50000 {
		n := numbers[r.next()%uint64(len(numbers))]
		for range r.next() % 4 {
			check(t, n)
		}
	}
}

// TestOften asks for each call many times, with what was returned spoilt now and then.
func TestOften(t *testing.T) {
	for n := uint64(1); n <= Count; n++ {
		for i := range 1000 {
			s := check(t, n)
			if i%3 == 0 {
				spoil(s)
			}
		}
	}
}
