package rules

import (
	"fmt"
	"math"
	"slices"
	"testing"

	"glacis/api"
)

// names are the categories that the tests' labels name, as many as a label may have pairs.
var names = []uint32{1, 2, 3, 7, 64, 100, 255, 256, 1 << 16, 1<<24 + 1, 1<<30 - 1, 1 << 30}

// A sample is a label beside its levels: those of the first categories of names, and behind them that of all others.
type sample struct {
	l  api.Label
	at []int
}

// build is the label that has these levels in some categories, and the last one in all others.
func build(cats []uint32, at []int) api.Label {
	l := api.Label{Default: at[len(at)-1]}
	for i, level := range at[:len(at)-1] {
		if level != l.Default {
			l.Pairs = append(l.Pairs, api.Pair{Cat: cats[i], Level: level})
		}
	}
	return l
}

// lab is a label by hand: a default, then categories and their levels, in their order.
func lab(def int, pairs ...int) api.Label {
	l := api.Label{Default: def}
	for i := 0; i < len(pairs); i += 2 {
		l.Pairs = append(l.Pairs, api.Pair{Cat: uint32(pairs[i]), Level: pairs[i+1]})
	}
	return l
}

// same is whether two labels have the same default and pairs.
func same(a, b api.Label) bool { return a.Default == b.Default && slices.Equal(a.Pairs, b.Pairs) }

// isLabel is layer 2's valid label.
func isLabel(l api.Label) bool {
	if l.Default < 1 || l.Default > 4 || len(l.Pairs) > 12 {
		return false
	}
	for i, p := range l.Pairs {
		if p.Cat < 1 || p.Cat > 1<<30 || p.Level < 0 || p.Level > 4 || p.Level == l.Default {
			return false
		}
		if i > 0 && l.Pairs[i-1].Cat >= p.Cat {
			return false
		}
	}
	return true
}

// tuples are all lists of n levels from low to 4.
func tuples(n, low int) [][]int {
	all := [][]int{{}}
	for range n {
		var more [][]int
		for _, v := range all {
			for level := low; level <= 4; level++ {
				more = append(more, append(slices.Clone(v), level))
			}
		}
		all = more
	}
	return all
}

// small are all labels over the first n of names.
func small(n int) []sample {
	var all []sample
	for _, at := range tuples(n+1, 0) {
		if at[n] != 0 {
			all = append(all, sample{build(names, at), at})
		}
	}
	return all
}

// across are labels of which each has its place in these lists: a list for each of the first categories of names, the last one for all others.
func across(points [][]int) []sample {
	s := make([]sample, len(points[0]))
	for i := range s {
		for _, v := range points {
			s[i].at = append(s[i].at, v[i])
		}
		s[i].l = build(names, s[i].at)
	}
	return s
}

// raised, rested: a level of the raised label, and of the one at rest.
func raised(level int) int {
	if level == 0 {
		return 5
	}
	return level
}

func rested(level int) int {
	if level == 0 {
		return 2
	}
	return level
}

// lowest is a level of the least label that may be asked for.
func lowest(a, b int) int {
	if a == 0 || b == 0 {
		return 0
	}
	return max(a, b)
}

// A condition is one that must hold for the levels that some labels have in one category, whichever it is.
type condition struct {
	what  string
	holds func(v []int) bool
}

// A rule is a call that asks whether some conditions hold, with as many labels as it is given. One of the conditions may follow from the others.
type rule struct {
	name       string
	labels     int
	ask        func(l []api.Label) bool
	conditions []condition
	follows    int
}

// none is for rules each of whose conditions can be the only one that does not hold.
const none = -1

// upto is the condition that one label is at or below another.
func upto(what string, i, j int) condition {
	return condition{what, func(v []int) bool { return v[i] <= v[j] }}
}

// readable is the condition that a label is at or below the raised one of another.
func readable(what string, i, j int) condition {
	return condition{what, func(v []int) bool { return v[i] <= raised(v[j]) }}
}

// plain is the condition that a label owns nothing.
func plain(what string, i int) condition {
	return condition{what, func(v []int) bool { return v[i] != 0 }}
}

// resting is the condition that one label is at or below another at rest.
func resting(what string, i, j int) condition {
	return condition{what, func(v []int) bool { return v[i] <= rested(v[j]) }}
}

// rulesOfTwo are those of one label, or two.
func rulesOfTwo() []rule {
	return []rule{
		{"Read", 2, func(l []api.Label) bool { return Read(l[0], l[1]) },
			[]condition{readable("o ⊑ Raise(t)", 1, 0)}, none},
		{"Change", 2, func(l []api.Label) bool { return Change(l[0], l[1]) },
			[]condition{upto("t ⊑ o", 0, 1), readable("o ⊑ Raise(t)", 1, 0)}, none},
		{"Plain", 1, func(l []api.Label) bool { return Plain(l[0]) },
			[]condition{plain("l owns nothing", 0)}, none},
		{"Sees", 2, func(l []api.Label) bool { return Sees(l[0], l[1]) },
			[]condition{readable("o ⊑ Raise(observer)", 1, 0)}, none},
		{"Trusted", 2, func(l []api.Label) bool { return Trusted(l[0], l[1]) },
			[]condition{{"what t owns is at Star or L3", func(v []int) bool {
				return v[1] != 0 || v[0] == 0 || v[0] == 4
			}}}, none},
	}
}

// rulesOfMore are those of three labels and more.
func rulesOfMore() []rule {
	return []rule{
		{"Self", 3, func(l []api.Label) bool { return Self(Who{l[0], l[1]}, l[2]) },
			[]condition{upto("t.Label ⊑ l", 0, 2), upto("l ⊑ t.Clear", 2, 1)}, none},
		{"Clear", 3, func(l []api.Label) bool { return Clear(Who{l[0], l[1]}, l[2]) },
			[]condition{
				upto("t.Label ⊑ c", 0, 2),
				{"c ⊑ Join(t.Clear, Raise(t.Label))", func(v []int) bool { return v[2] <= max(v[1], raised(v[0])) }},
			}, none},
		{"Create", 4, func(l []api.Label) bool { return Create(Who{l[0], l[1]}, l[2], l[3]) },
			// What flows from the thread to the home, and on to the new label, flows to that.
			[]condition{
				upto("t.Label ⊑ home", 0, 2), readable("home ⊑ Raise(t.Label)", 2, 0), plain("l is plain", 3),
				upto("t.Label ⊑ l", 0, 3), upto("l ⊑ t.Clear", 3, 1), upto("home ⊑ l", 2, 3),
			}, 3},
		{"Give", 5, func(l []api.Label) bool { return Give(Who{l[0], l[1]}, l[2], Who{l[3], l[4]}) },
			[]condition{
				upto("t.Label ⊑ home", 0, 2), readable("home ⊑ Raise(t.Label)", 2, 0),
				upto("t.Label ⊑ w.Label", 0, 3), upto("w.Label ⊑ w.Clear", 3, 4), upto("w.Clear ⊑ t.Clear", 4, 1),
				resting("home ⊑ Rest(w.Label)", 2, 3),
			}, none},
		{"Enter", 7, func(l []api.Label) bool {
			return Enter(Who{l[0], l[1]}, l[2], Who{l[3], l[4]}, Who{l[5], l[6]})
		},
			[]condition{
				upto("t.Label ⊑ gate.Clear", 0, 4),
				{"Least ⊑ want.Label", func(v []int) bool { return lowest(v[0], v[3]) <= v[5] }},
				upto("want.Label ⊑ want.Clear", 5, 6),
				{"want.Clear ⊑ Join(t.Clear, gate.Clear)", func(v []int) bool { return v[6] <= max(v[1], v[4]) }},
				resting("home ⊑ Rest(want.Label)", 2, 5),
			}, none},
	}
}

func allRules() []rule { return append(rulesOfTwo(), rulesOfMore()...) }

// failing has a bit for each condition that does not hold for the levels in one category.
func (r rule) failing(v []int) uint {
	bits := uint(0)
	for i, c := range r.conditions {
		if !c.holds(v) {
			bits |= 1 << i
		}
	}
	return bits
}

// check holds a call against the conditions, category by category, and answers those that fail.
func (r rule) check(t *testing.T, s ...sample) uint {
	t.Helper()
	bits := uint(0)
	var room [7]int
	v := room[:r.labels]
	for p := range s[0].at {
		for i := range v {
			v[i] = s[i].at[p]
		}
		bits |= r.failing(v)
	}
	var labels [7]api.Label
	for i := range v {
		labels[i] = s[i].l
	}
	if got := r.ask(labels[:r.labels]); got != (bits == 0) {
		t.Fatalf("%s of %v is %v", r.name, labels[:r.labels], got)
	}
	return bits
}

// kinds are lists of levels in one category, by the conditions that fail there.
func (r rule) kinds(low int) map[uint][][]int {
	k := map[uint][][]int{}
	for _, v := range tuples(r.labels, low) {
		bits := r.failing(v)
		k[bits] = append(k[bits], v)
	}
	return k
}

// A tally counts what failed, to show that each condition was once the only one that did not hold.
type tally map[uint]int

func (n tally) whole(t *testing.T, r rule) {
	t.Helper()
	if n[0] == 0 {
		t.Errorf("%s: the test never asks what is so", r.name)
	}
	for i, c := range r.conditions {
		if (n[1<<i] == 0) != (i == r.follows) {
			t.Errorf("%s: that only %q does not hold was asked %d times", r.name, c.what, n[1<<i])
		}
	}
}

// each runs a test of a rule for all of them, side by side.
func each(t *testing.T, all []rule, test func(t *testing.T, r rule)) {
	for _, r := range all {
		t.Run(r.name, func(t *testing.T) {
			t.Parallel()
			test(t, r)
		})
	}
}

// TestSmallLabels holds the calls of up to three labels against all small ones.
func TestSmallLabels(t *testing.T) {
	short, long := small(2), small(3)
	each(t, allRules(), func(t *testing.T, r rule) {
		n := tally{}
		switch r.labels {
		case 1:
			for _, a := range long {
				n[r.check(t, a)]++
			}
		case 2:
			for _, a := range long {
				for _, b := range long {
					n[r.check(t, a, b)]++
				}
			}
		case 3:
			for _, a := range short {
				for _, b := range short {
					for _, c := range short {
						n[r.check(t, a, b, c)]++
					}
				}
			}
		default:
			return
		}
		n.whole(t, r)
	})
}

// TestOneCategory goes over all levels that the labels may have in one category, where the rest is as it should be, and where it is not.
func TestOneCategory(t *testing.T) {
	each(t, allRules(), func(t *testing.T, r rule) {
		n, rest := tally{}, r.kinds(1)
		draw := drawing(16, r.labels)
		for _, v := range tuples(r.labels, 0) {
			for range 4 {
				n[r.check(t, across([][]int{v, pick(draw, rest[0])})...)]++
			}
			for bits := range uint(1) << len(r.conditions) {
				if len(rest[bits]) > 0 && len(v) < 6 {
					n[r.check(t, across([][]int{v, pick(draw, rest[bits])})...)]++
				}
			}
		}
		n.whole(t, r)
	})
}

// TestDefaults goes over all defaults, in labels without pairs, and in such as have a pair that is as it should be.
func TestDefaults(t *testing.T) {
	each(t, allRules(), func(t *testing.T, r rule) {
		n, good := tally{}, r.kinds(0)[0]
		draw := drawing(17, r.labels)
		for _, v := range tuples(r.labels, 1) {
			n[r.check(t, across([][]int{v})...)]++
			n[r.check(t, across([][]int{pick(draw, good), v})...)]++
		}
		if n[0] == 0 {
			t.Errorf("%s: the test never asks what is so", r.name)
		}
	})
}

// TestManyCategories draws labels of up to MaxPairs pairs that are as they should be, but for at most one category, at each place, or all others.
func TestManyCategories(t *testing.T) {
	each(t, allRules(), func(t *testing.T, r rule) {
		n, kinds, rest := tally{}, r.kinds(0), r.kinds(1)
		draw := drawing(18, r.labels)
		for count := range len(names) + 1 {
			for bits := range uint(1) << len(r.conditions) {
				for place := range count + 1 {
					if place < count && len(kinds[bits]) == 0 || place == count && len(rest[bits]) == 0 {
						continue
					}
					for range 5 {
						points := drawn(draw, kinds[0], count)
						points = append(points, pick(draw, rest[0]))
						if place < count {
							points[place] = pick(draw, kinds[bits])
						} else {
							points[place] = pick(draw, rest[bits])
						}
						n[r.check(t, across(points)...)]++
					}
				}
			}
		}
		n.whole(t, r)
	})
}

// A drawer answers a number from 0 up to below n, the same ones in the same order each time that the tests run.
type drawer func(n int) int

func drawing(test, labels int) drawer {
	x := uint64(100*test + labels)
	return func(n int) int {
		x = x*6364136223846793005 + 1442695040888963407
		return int(x >> 33 % uint64(n))
	}
}

// pick draws one of some lists of levels; drawn draws as many as are asked for.
func pick(draw drawer, from [][]int) []int { return from[draw(len(from))] }

func drawn(draw drawer, from [][]int, n int) [][]int {
	var all [][]int
	for range n {
		all = append(all, pick(draw, from))
	}
	return all
}

var (
	one, two, three = lab(api.L1), lab(api.L2), lab(api.L3)
	owner           = lab(api.L1, 7, api.Star)
	secret          = lab(api.L1, 7, api.L3)
)

func TestReadAndChangeByHand(t *testing.T) {
	for _, c := range []struct {
		what         string
		t, o         api.Label
		read, change bool
	}{
		{"the same label", one, one, true, true},
		{"a thread below", one, secret, false, false},
		{"a thread above: {1, c 3} may not change {1}", secret, one, true, false},
		{"the same pair", secret, secret, true, true},
		{"an owner, what is above", owner, secret, true, true},
		{"an owner, what is below", owner, one, true, true},
		{"an owner, what is at 0 there", owner, lab(api.L1, 7, api.L0), true, true},
		{"an owner, what owns as it does", owner, owner, true, true},
		{"no owner, what owns", one, owner, true, false},
		{"an owner of another category", lab(api.L1, 6, api.Star), secret, false, false},
		{"an owner, what is above in another category", owner, lab(api.L1, 7, api.L3, 8, api.L2), false, false},
		{"an owner, what is below in another category", owner, lab(api.L1, 7, api.L3, 8, api.L0), true, false},
		{"a lower default", one, two, false, false},
		{"a higher default", two, one, true, false},
		{"High is asked of no default", lab(api.L3, 7, api.Star), three, true, true},
	} {
		if got := Read(c.t, c.o); got != c.read {
			t.Errorf("%s: Read is %v", c.what, got)
		}
		if got := Sees(c.t, c.o); got != c.read {
			t.Errorf("%s: Sees is %v", c.what, got)
		}
		if got := Change(c.t, c.o); got != c.change {
			t.Errorf("%s: Change is %v", c.what, got)
		}
	}
}

func TestPlainByHand(t *testing.T) {
	for _, c := range []struct {
		l    api.Label
		want bool
	}{
		{one, true}, {three, true}, {lab(api.L0), true}, {secret, true}, {owner, false},
		{lab(api.L1, 7, api.L0), true}, {lab(api.L0, 7, api.L1), true}, {lab(api.L0, 7, api.Star), false},
		{lab(api.L1, 6, api.L3, 7, api.Star, 8, api.L3), false}, {lab(api.L3, 1, api.L0, api.MaxCat, api.Star), false},
	} {
		if got := Plain(c.l); got != c.want {
			t.Errorf("Plain(%v) is %v", c.l, got)
		}
	}
}

func TestCreateByHand(t *testing.T) {
	who := Who{one, lab(api.L2, 8, api.L3)}
	own := Who{owner, three}
	for _, c := range []struct {
		what    string
		t       Who
		home, l api.Label
		want    bool
	}{
		{"at the thread's label", who, one, one, true},
		{"above it, at the clearance", who, one, lab(api.L2, 8, api.L3), true},
		{"above it, below the clearance", who, one, lab(api.L1, 8, api.L3), true},
		{"the home is above", who, two, two, false},
		{"the home is below", Who{secret, three}, one, secret, false},
		{"the label owns something that the thread does not own", who, one, owner, false},
		{"the label owns what the thread owns", own, owner, owner, false},
		{"the label is below the thread's", who, one, lab(api.L0), false},
		{"the label is below the thread's in one category", who, one, lab(api.L1, 7, api.L0), false},
		{"the label is above the clearance", who, one, lab(api.L2, 8, api.L3, 9, api.L3), false},
		{"the home does not flow to it", own, secret, one, false},
		{"the home flows to it", own, secret, secret, true},
		{"the home of an owner is below it", own, one, secret, true},
		{"a home that owns", own, owner, lab(api.L1, 7, api.L0), true},
		{"what the thread owns is above its clearance", Who{owner, two}, one, secret, false},
	} {
		if got := Create(c.t, c.home, c.l); got != c.want {
			t.Errorf("%s: Create is %v", c.what, got)
		}
	}
}

func TestGiveByHand(t *testing.T) {
	who, own := Who{one, two}, Who{owner, three}
	for _, c := range []struct {
		what string
		t    Who
		home api.Label
		w    Who
		want bool
	}{
		{"the thread's own", who, one, who, true},
		{"above the thread's", who, one, Who{lab(api.L1, 8, api.L2), lab(api.L1, 8, api.L2)}, true},
		{"what the thread owns", own, one, own, true},
		{"less than what the thread owns", own, one, Who{one, three}, true},
		{"what the thread does not own", who, one, Who{owner, two}, false},
		{"beside what it owns, what it does not", own, one, Who{lab(api.L1, 7, api.Star, 8, api.Star), three}, false},
		{"the home is above", who, two, Who{two, two}, false},
		{"the home is below", Who{secret, three}, one, Who{secret, three}, false},
		{"below the thread's", who, one, Who{lab(api.L0), two}, false},
		{"above its own clearance", who, one, Who{two, one}, false},
		{"a clearance above the thread's", who, one, Who{one, lab(api.L2, 8, api.L3)}, false},
		{"a clearance below the thread's", who, one, Who{one, one}, true},
		{"the home flows to it only at rest", own, lab(api.L1, 7, api.L1), Who{owner, three}, true},
		{"the home flows to it only at rest, from 0", own, lab(api.L1, 7, api.L0), Who{owner, three}, true},
		{"the home does not flow to it even at rest", own, secret, own, false},
		{"the home does not flow to it even at rest, from 2", own, lab(api.L1, 7, api.L2), own, false},
		{"the home does not flow to what owns nothing", own, secret, Who{one, three}, false},
		{"the home flows to what owns nothing", own, secret, Who{secret, three}, true},
	} {
		if got := Give(c.t, c.home, c.w); got != c.want {
			t.Errorf("%s: Give is %v", c.what, got)
		}
	}
}

func TestSelfByHand(t *testing.T) {
	who, own := Who{one, lab(api.L1, 7, api.L3)}, Who{owner, three}
	for _, c := range []struct {
		what string
		t    Who
		l    api.Label
		want bool
	}{
		{"its own", who, one, true}, {"its clearance", who, secret, true}, {"between", who, lab(api.L1, 7, api.L2), true},
		{"above its clearance", who, lab(api.L1, 8, api.L2), false}, {"below its label", who, lab(api.L1, 7, api.L0), false},
		{"what it does not own", who, owner, false}, {"what it owns", own, owner, true}, {"no more what it owned", own, one, true},
		{"what it owned, at its clearance", own, secret, true}, {"what it owned, above its clearance", Who{owner, two}, secret, false},
	} {
		if got := Self(c.t, c.l); got != c.want {
			t.Errorf("%s: Self is %v", c.what, got)
		}
	}
}

func TestClearByHand(t *testing.T) {
	who := Who{owner, two}
	for _, c := range []struct {
		what string
		t    Who
		c    api.Label
		want bool
	}{
		{"at the clearance", who, two, true},
		{"below the clearance", who, one, true},
		{"at the label", who, owner, true},
		{"below the label", who, lab(api.L0, 7, api.Star), false},
		{"below the label in one category", who, lab(api.L1, 8, api.L0), false},
		{"above the clearance, where the label owns", who, lab(api.L2, 7, api.L3), true},
		{"above the clearance, where the label does not own", who, lab(api.L2, 8, api.L3), false},
		{"above the clearance, where the label owns and where not", who, lab(api.L2, 7, api.L3, 8, api.L3), false},
		{"above the clearance in all categories", who, three, false},
		{"above the clearance, at the label", Who{two, one}, two, true},
		{"above the clearance and the label", Who{two, one}, three, false},
		{"above the one here, above the other there", Who{secret, lab(api.L1, 8, api.L3)}, lab(api.L1, 7, api.L3, 8, api.L3), true},
		{"beside both", Who{secret, lab(api.L1, 8, api.L3)}, lab(api.L1, 7, api.L3, 9, api.L2), false},
		{"beside the clearance alone", Who{secret, lab(api.L1, 8, api.L3)}, secret, true},
		{"beside the label alone", Who{secret, lab(api.L1, 8, api.L3)}, lab(api.L1, 8, api.L3), false},
	} {
		if got := Clear(c.t, c.c); got != c.want {
			t.Errorf("%s: Clear is %v", c.what, got)
		}
	}
}

// many is a label of n pairs of one level, of each second category from one on.
func many(def, from, n, level int) api.Label {
	l := lab(def)
	for i := range n {
		l.Pairs = append(l.Pairs, api.Pair{Cat: uint32(from + 2*i), Level: level})
	}
	return l
}

// TestClearIsValid: what lies between the bounds, but may not be a label, is no clearance.
func TestClearIsValid(t *testing.T) {
	who := Who{many(api.L1, 1, api.MaxPairs, api.L3), many(api.L1, 2, api.MaxPairs, api.L3)}
	joined := api.Label{Default: api.L1}
	for c := range uint32(2 * api.MaxPairs) {
		joined.Pairs = append(joined.Pairs, api.Pair{Cat: c + 1, Level: api.L3})
	}
	odd := Who{owner, three}
	for _, c := range []struct {
		what string
		t    Who
		c    api.Label
		want bool
	}{
		{"the label", who, who.Label, true},
		{"the join", who, joined, false},
		{"the label and one pair of the clearance", who, lab(api.L1, 1, 4, 2, 4, 3, 4, 5, 4, 7, 4, 9, 4, 11, 4, 13, 4, 15, 4, 17, 4, 19, 4, 21, 4, 23, 4), false},
		{"one pair fewer than too many", Who{many(api.L1, 1, api.MaxPairs-1, api.L3), who.Clear}, lab(api.L1, 1, 4, 2, 4, 3, 4, 5, 4, 7, 4, 9, 4, 11, 4, 13, 4, 15, 4, 17, 4, 19, 4, 21, 4), true},
		{"High, as the raised label", odd, lab(api.L3, 7, api.High), false},
		{"the greatest level", odd, lab(api.L3, 7, math.MaxInt), false},
		{"a level below Star", odd, lab(api.L3, 7, -1), false},
		{"the default's level", odd, lab(api.L2, 7, api.L2), false},
		{"category 0", odd, lab(api.L2, 0, api.L3), false},
		{"category MaxCat", odd, lab(api.L2, api.MaxCat, api.L3), true},
		{"one more", odd, lab(api.L2, api.MaxCat+1, api.L3), false},
		{"the greatest category", odd, lab(api.L2, math.MaxUint32, api.L3), false},
		{"a category twice", odd, lab(api.L2, 7, api.L3, 7, api.L3), false},
		{"falling categories", odd, lab(api.L2, 8, api.L3, 7, api.L3), false},
		{"default Star", Who{lab(api.L0), three}, lab(api.Star), false},
		{"default High", odd, lab(api.High), false},
		{"the least default", odd, lab(math.MinInt), false},
		{"the greatest default", odd, lab(math.MaxInt), false},
	} {
		if got := Clear(c.t, c.c); got != c.want {
			t.Errorf("%s: Clear is %v", c.what, got)
		}
	}
}

// TestLeast holds the answer against the raised labels' join, lowered, category by category.
func TestLeast(t *testing.T) {
	check := func(a, b sample) {
		at := make([]int, len(a.at))
		for i := range at {
			at[i] = lowest(a.at[i], b.at[i])
			if joined := max(raised(a.at[i]), raised(b.at[i])); joined%5 != at[i] {
				t.Fatalf("the test's levels are not the join's: %d and %d", joined, at[i])
			}
		}
		if got := Least(a.l, b.l); !same(got, build(names, at)) {
			t.Fatalf("Least(%v, %v) is %v", a.l, b.l, got)
		}
	}
	all := small(3)
	for _, a := range all {
		for _, b := range all {
			check(a, b)
		}
	}
	draw := drawing(19, 0)
	pairs, defaults := tuples(2, 0), tuples(2, 1)
	for range 3000 {
		s := across(append(drawn(draw, pairs, draw(len(names)+1)), pick(draw, defaults)))
		check(s[0], s[1])
	}
}

func TestLeastByHand(t *testing.T) {
	for _, c := range []struct {
		what          string
		t, gate, want api.Label
	}{
		{"neither owns", lab(api.L1, 7, api.L3), lab(api.L2, 8, api.L0), lab(api.L2, 7, api.L3, 8, api.L1)},
		{"the thread owns", owner, one, owner},
		{"the gate owns", one, owner, owner},
		{"the gate owns, and the thread is at 3", secret, owner, owner},
		{"the thread owns, and the gate is at 3", owner, secret, owner},
		{"both own", owner, owner, owner},
		{"each owns one", owner, lab(api.L1, 8, api.Star), lab(api.L1, 7, api.Star, 8, api.Star)},
		{"a level becomes the default's", lab(api.L1, 7, api.L2), two, two},
		{"a pair of either default", lab(api.L3, 7, api.L0), lab(api.L1, 9, api.L2), lab(api.L3, 7, api.L1)},
		{"all is owned", many(api.L1, 1, 12, api.Star), many(api.L2, 1, 12, api.L3), many(api.L2, 1, 12, api.Star)},
	} {
		if got := Least(c.t, c.gate); !same(got, c.want) {
			t.Errorf("%s: Least is %v", c.what, got)
		}
	}
}

// TestLeastOfManyPairs: the answer may have more pairs than a label, and what is asked of a gate is held against all of them.
func TestLeastOfManyPairs(t *testing.T) {
	odd, even := many(api.L1, 1, api.MaxPairs, api.Star), many(api.L1, 2, api.MaxPairs, api.L3)
	want := api.Label{Default: api.L1}
	for c := uint32(1); c <= 2*api.MaxPairs; c++ {
		want.Pairs = append(want.Pairs, api.Pair{Cat: c, Level: api.L3 * int(1-c%2)})
	}
	for _, got := range []api.Label{Least(odd, even), Least(even, odd)} {
		if !same(got, want) {
			t.Errorf("Least is %v", got)
		}
	}
	gate := Who{odd, three}
	if !Enter(Who{even, three}, one, gate, Who{even, three}) {
		t.Error("who enters may not do without what the gate owns")
	}
	if less := many(api.L1, 2, api.MaxPairs-1, api.L3); Enter(Who{even, three}, one, gate, Who{less, three}) {
		t.Error("who enters may come below its last pair")
	}
	low := Who{many(api.L1, 1, api.MaxPairs, api.L3), one}
	if !Enter(Who{one, low.Label}, one, Who{one, even}, Who{one, one}) || Enter(Who{one, low.Label}, one, Who{one, even}, Who{one, lab(api.L1, 25, api.L3)}) {
		t.Error("the clearance is not held against the join of many pairs")
	}
}

func TestEnterByHand(t *testing.T) {
	who := Who{one, two}
	open, key := Who{one, two}, Who{owner, three}
	for _, c := range []struct {
		what string
		t    Who
		home api.Label
		gate Who
		want Who
		ok   bool
	}{
		{"a gate that owns nothing", who, one, open, who, true},
		{"a gate that owns nothing gives nothing", who, one, open, Who{owner, two}, false},
		{"a gate that owns what the thread does not", who, one, key, Who{owner, three}, true},
		{"the thread need not take it", who, one, key, Who{one, three}, true},
		{"what neither owns", who, one, key, Who{lab(api.L1, 7, api.Star, 8, api.Star), three}, false},
		{"what the thread owns", Who{owner, two}, one, open, Who{owner, two}, true},
		{"what either owns", Who{lab(api.L1, 8, api.Star), two}, one, key, Who{lab(api.L1, 7, api.Star, 8, api.Star), three}, true},
		{"the thread is above the gate's clearance", Who{lab(api.L1, 8, api.L3), three}, one, open, Who{lab(api.L1, 8, api.L3), three}, false},
		{"the thread is at the gate's clearance", Who{two, three}, one, Who{one, two}, Who{two, three}, true},
		{"the gate's label is above what is wanted", who, one, Who{two, two}, who, false},
		{"the gate's label is what is wanted", who, one, Who{two, two}, Who{two, two}, true},
		{"what is wanted is below the thread", Who{two, two}, one, open, who, false},
		{"the gate owns what the thread is at 3 in", Who{secret, three}, one, key, Who{owner, three}, true},
		{"the gate owns, and the thread comes down", Who{secret, three}, one, key, Who{one, three}, true},
		{"the wanted clearance is below the wanted label", who, one, open, Who{two, one}, false},
		{"the wanted clearance is above either", who, one, open, Who{one, three}, false},
		{"the wanted clearance is above either in one category", who, one, open, Who{one, lab(api.L2, 8, api.L3)}, false},
		{"the wanted clearance is the thread's", Who{one, three}, one, open, Who{one, three}, true},
		{"the wanted clearance is the gate's", Who{one, one}, one, Who{one, three}, Who{one, three}, true},
		{"the wanted clearance is the one's here, the other's there", Who{one, lab(api.L1, 7, api.L3)}, one, Who{one, lab(api.L1, 8, api.L3)}, Who{one, lab(api.L1, 7, api.L3, 8, api.L3)}, true},
		{"the home is above what is wanted", who, two, open, who, false},
		{"the home is at what is wanted", who, two, open, Who{two, two}, true},
		{"the home flows to it only at rest", who, lab(api.L1, 7, api.L1), key, Who{owner, three}, true},
		{"the home does not flow to it even at rest", who, secret, key, Who{owner, three}, false},
		{"the home flows to what the thread need not take", who, secret, key, Who{secret, three}, true},
	} {
		if got := Enter(c.t, c.home, c.gate, c.want); got != c.ok {
			t.Errorf("%s: Enter is %v", c.what, got)
		}
	}
}

// with is layer 2's With, by the levels.
func with(l api.Label, c uint32, level int) api.Label {
	var cats []uint32
	for _, p := range l.Pairs {
		cats = append(cats, p.Cat)
	}
	cats = append(cats, c)
	slices.Sort(cats)
	cats = slices.Compact(cats)
	var at []int
	for _, cat := range cats {
		at = append(at, levelOf(l, cat))
		if cat == c {
			at[len(at)-1] = level
		}
	}
	return build(cats, append(at, l.Default))
}

// levelOf is the level of a category in a label.
func levelOf(l api.Label, c uint32) int {
	for _, p := range l.Pairs {
		if p.Cat == c {
			return p.Level
		}
	}
	return l.Default
}

func checkFresh(t *testing.T, w Who, c uint32) bool {
	t.Helper()
	want := Who{with(w.Label, c, 0), with(w.Clear, c, 4)}
	right := isLabel(want.Label) && isLabel(want.Clear)
	got, ok := Fresh(w, c)
	if !same(got.Label, want.Label) || !same(got.Clear, want.Clear) || ok != right {
		t.Fatalf("Fresh(%v, %d) is %v, %v", w, c, got, ok)
	}
	return ok
}

// TestFresh goes over all pairs of small labels, and drawn ones of up to MaxPairs pairs, with categories at the edges, of theirs, and beside them.
func TestFresh(t *testing.T) {
	edges := []uint32{0, 1, 2, 4, 1<<30 - 1, 1 << 30, 1<<30 + 1, 1 << 31, math.MaxUint32}
	all := small(2)
	for _, a := range all {
		for _, b := range all {
			for _, c := range edges {
				if ok := checkFresh(t, Who{a.l, b.l}, c); ok != (c >= 1 && c <= 1<<30) {
					t.Fatalf("Fresh(%v, %v, %d) is %v", a.l, b.l, c, ok)
				}
			}
		}
	}
	draw := drawing(20, 0)
	pairs, defaults := tuples(2, 0), tuples(2, 1)
	seen := map[bool]int{}
	for range 5000 {
		count := draw(len(names)/4+1) + 3*len(names)/4
		s := across(append(drawn(draw, pairs, count), pick(draw, defaults)))
		for _, c := range slices.Concat(edges, names) {
			seen[checkFresh(t, Who{s[0].l, s[1].l}, c)]++
		}
	}
	if seen[true] == 0 || seen[false] == 0 {
		t.Errorf("the drawn labels are all of one kind: %v", seen)
	}
}

func TestFreshByHand(t *testing.T) {
	full := many(api.L1, 1, api.MaxPairs, api.L2)
	high := many(api.L3, 1, api.MaxPairs, api.L2)
	fewer := many(api.L1, 1, api.MaxPairs-1, api.L2)
	for _, c := range []struct {
		what         string
		w            Who
		c            uint32
		label, clear api.Label
		ok           bool
	}{
		{"named by neither", Who{one, two}, 9, lab(api.L1, 9, api.Star), lab(api.L2, 9, api.L3), true},
		{"the clearance's default is L3", Who{one, three}, 9, lab(api.L1, 9, api.Star), three, true},
		{"the clearance named it, and its default is L3", Who{one, lab(api.L3, 9, api.L0)}, 9, lab(api.L1, 9, api.Star), three, true},
		{"named by both", Who{lab(api.L1, 8, api.L2, 9, api.L3), lab(api.L2, 9, api.L1, 10, api.L0)}, 9, lab(api.L1, 8, api.L2, 9, api.Star), lab(api.L2, 9, api.L3, 10, api.L0), true},
		{"owned already", Who{lab(api.L1, 9, api.Star), lab(api.L2, 9, api.L3)}, 9, lab(api.L1, 9, api.Star), lab(api.L2, 9, api.L3), true},
		{"the least category", Who{one, two}, 1, lab(api.L1, 1, api.Star), lab(api.L2, 1, api.L3), true},
		{"no category", Who{one, two}, 0, lab(api.L1, 0, api.Star), lab(api.L2, 0, api.L3), false},
		{"no category, and only the label is not valid", Who{one, three}, 0, lab(api.L1, 0, api.Star), three, false},
		{"the greatest category", Who{one, two}, api.MaxCat, lab(api.L1, api.MaxCat, api.Star), lab(api.L2, api.MaxCat, api.L3), true},
		{"one more", Who{one, two}, api.MaxCat + 1, lab(api.L1, api.MaxCat+1, api.Star), lab(api.L2, api.MaxCat+1, api.L3), false},
		{"the greatest number", Who{one, three}, math.MaxUint32, lab(api.L1, math.MaxUint32, api.Star), three, false},
		{"the label is full", Who{full, three}, 99, with(full, 99, api.Star), three, false},
		{"the label is full, and names it", Who{full, three}, 23, with(full, 23, api.Star), three, true},
		{"one pair fewer", Who{fewer, fewer}, 99, with(fewer, 99, api.Star), with(fewer, 99, api.L3), true},
		{"the clearance is full", Who{one, full}, 99, lab(api.L1, 99, api.Star), with(full, 99, api.L3), false},
		{"the clearance is full, and names it", Who{one, full}, 1, lab(api.L1, 1, api.Star), with(full, 1, api.L3), true},
		{"the clearance is full, with default L3", Who{one, high}, 99, lab(api.L1, 99, api.Star), high, true},
		{"the clearance is full, names it, with default L3", Who{one, high}, 1, lab(api.L1, 1, api.Star), many(api.L3, 3, api.MaxPairs-1, api.L2), true},
		{"both are full", Who{full, full}, 2, with(full, 2, api.Star), with(full, 2, api.L3), false},
	} {
		got, ok := Fresh(c.w, c.c)
		if !same(got.Label, c.label) || !same(got.Clear, c.clear) || ok != c.ok {
			t.Errorf("%s: Fresh is %v, %v", c.what, got, ok)
		}
	}
}

func TestTrustedByHand(t *testing.T) {
	keys := lab(api.L1, 6, api.Star, 7, api.Star, 8, api.Star)
	for _, c := range []struct {
		what        string
		observer, t api.Label
		want        bool
	}{
		{"nothing is owned", one, one, true},
		{"nothing is owned, at 3", one, secret, true},
		{"nothing is owned, the observer owns", keys, one, true},
		{"owned by both", keys, keys, true},
		{"at 3 for the observer", three, keys, true},
		{"each at 3", lab(api.L1, 6, api.L3, 7, api.L3, 8, api.L3), keys, true},
		{"some at 3, some owned", lab(api.L1, 6, api.L3, 7, api.Star, 8, api.L3), keys, true},
		{"the first is at 0", lab(api.L1, 6, api.L0, 7, api.L3, 8, api.Star), keys, false},
		{"the first is at 1", lab(api.L1, 7, api.L3, 8, api.Star), keys, false},
		{"the middle one is at 2", lab(api.L1, 6, api.Star, 7, api.L2, 8, api.Star), keys, false},
		{"the middle one is at 1", lab(api.L1, 6, api.Star, 8, api.L3), keys, false},
		{"the last one is at 2", lab(api.L3, 8, api.L2), keys, false},
		{"the last one is at 0", lab(api.L3, 8, api.L0), keys, false},
		{"the observer's default is 2", two, keys, false},
		{"the observer owns another one", lab(api.L1, 5, api.Star), owner, false},
	} {
		if got := Trusted(c.observer, c.t); got != c.want {
			t.Errorf("%s: Trusted is %v", c.what, got)
		}
	}
}

// free is whether a thread owns a category that an observer neither owns nor has at 3.
func free(observer, t sample) bool {
	for i, level := range t.at {
		if level == 0 && observer.at[i] != 0 && observer.at[i] != 4 {
			return true
		}
	}
	return false
}

// TestNoninterference is P16.2 over all small labels.
func TestNoninterference(t *testing.T) {
	all := small(3)
	n := len(all)
	sees, freed := make([][]bool, n), make([][]bool, n)
	for i, ob := range all {
		for _, th := range all {
			sees[i] = append(sees[i], Sees(ob.l, th.l))
			freed[i] = append(freed[i], free(ob, th))
			if Trusted(ob.l, th.l) == freed[i][len(freed[i])-1] {
				t.Fatalf("Trusted(%v, %v) is not what the levels say", ob.l, th.l)
			}
		}
	}
	asked := 0
	for i, th := range all {
		for j, o := range all {
			if !Change(th.l, o.l) {
				continue
			}
			for k := range all {
				if !sees[k][j] {
					continue
				}
				asked++
				if !sees[k][i] && !freed[k][i] {
					t.Fatalf("%v changes %v, which %v sees", th.l, o.l, all[k].l)
				}
			}
		}
	}
	if asked == 0 {
		t.Error("nobody sees what is changed")
	}
}

// TestNoninterferenceDrawn is P16.2 over drawn labels of up to MaxPairs pairs: a thread's, an object's, an observer's.
func TestNoninterferenceDrawn(t *testing.T) {
	draw := drawing(21, 0)
	fits := func(v []int) bool { return v[0] <= v[1] && v[1] <= raised(v[0]) && v[1] <= raised(v[2]) }
	keep := func(v []int) bool { return !fits(v) }
	all, defaults := tuples(3, 0), slices.DeleteFunc(tuples(3, 1), keep)
	good := slices.DeleteFunc(tuples(3, 0), keep)
	asked := map[bool]int{}
	for i := range 60000 {
		points := drawn(draw, good, draw(len(names)+1))
		if i%2 == 0 && len(points) > 0 {
			points[draw(len(points))] = pick(draw, all)
		}
		points = append(points, pick(draw, defaults))
		s := across(points)
		changes := Change(s[0].l, s[1].l) && Sees(s[2].l, s[1].l)
		if changes != !slices.ContainsFunc(points, keep) {
			t.Fatalf("Change(%v, %v), and Sees by %v: %v", s[0].l, s[1].l, s[2].l, changes)
		}
		if changes && !Sees(s[2].l, s[0].l) && !free(s[2], s[0]) {
			t.Fatalf("%v changes %v, which %v sees", s[0].l, s[1].l, s[2].l)
		}
		asked[changes]++
	}
	if asked[true] == 0 || asked[false] == 0 {
		t.Errorf("the drawn labels are all of one kind: %v", asked)
	}
}

// TestWhatIsMade is P16.2 for what a thread makes: who sees it, or its home, sees the thread.
func TestWhatIsMade(t *testing.T) {
	draw := drawing(22, 0)
	observers := small(1)
	for _, r := range rulesOfMore() {
		// The thread's label, its home's and the new label stand at these places of the labels of both calls.
		if r.name != "Create" && r.name != "Give" {
			continue
		}
		good, rest := r.kinds(0)[0], r.kinds(1)[0]
		for _, v := range good {
			s := across([][]int{v, pick(draw, rest)})
			r.check(t, s...)
			for _, ob := range observers {
				if (Sees(ob.l, s[2].l) || Sees(ob.l, s[3].l)) && !Sees(ob.l, s[0].l) && !free(ob, s[0]) {
					t.Fatalf("%s of %v is seen by %v", r.name, s, ob.l)
				}
			}
		}
	}
}

// canary stands in memory that no call may change.
var canary = api.Pair{Cat: 0xDEAD, Level: 77}

// A guarded label has room behind its pairs, and canaries around them.
type guarded struct {
	l        api.Label
	all, was []api.Pair
}

func guard(l api.Label) guarded {
	all := slices.Concat([]api.Pair{canary}, l.Pairs, []api.Pair{canary, canary, canary})
	l.Pairs = all[1 : 1+len(l.Pairs) : len(all)-1]
	return guarded{l, all, slices.Clone(all)}
}

func whole(t *testing.T, what string, g []guarded) {
	t.Helper()
	for i, l := range g {
		if !slices.Equal(l.all, l.was) {
			t.Fatalf("%s: the memory of label %d is %v, was %v", what, i, l.all, l.was)
		}
	}
}

// spoil writes to all the memory of some labels, also to the room behind their pairs.
func spoil(labels ...api.Label) {
	for _, l := range labels {
		room := l.Pairs[:cap(l.Pairs)]
		for i := range room {
			room[i] = api.Pair{Cat: 4444, Level: 44}
		}
	}
}

// copied are labels in memory of their own.
func copied(labels ...api.Label) []api.Label {
	var all []api.Label
	for _, l := range labels {
		all = append(all, api.Label{Default: l.Default, Pairs: slices.Clone(l.Pairs)})
	}
	return all
}

// apart fails if answers have memory of the labels that were passed, or of each other.
func apart(t *testing.T, what string, g []guarded, answers ...api.Label) {
	t.Helper()
	whole(t, what, g)
	was := copied(answers...)
	for i := range answers {
		spoil(answers[i])
		whole(t, what+", its answer changed", g)
		for j := range answers {
			if j != i && !same(answers[j], was[j]) {
				t.Fatalf("%s: two labels of the answer share memory", what)
			}
		}
		copy(answers[i].Pairs, was[i].Pairs)
	}
}

// kept fails if a label that is passed and then changed changes an answer.
func kept(t *testing.T, what string, g []guarded, answers ...api.Label) {
	t.Helper()
	was := copied(answers...)
	for _, l := range g {
		spoil(l.l)
	}
	for i := range answers {
		if !same(answers[i], was[i]) {
			t.Fatalf("%s: an answer has memory of a label that was passed", what)
		}
	}
}

// guards are labels, each guarded.
func guards(labels ...api.Label) []guarded {
	var g []guarded
	for _, l := range labels {
		g = append(g, guard(l))
	}
	return g
}

// TestMemoryOfRules: no call changes a byte of a label.
func TestMemoryOfRules(t *testing.T) {
	each(t, allRules(), func(t *testing.T, r rule) {
		draw := drawing(23, r.labels)
		kinds, rest := r.kinds(0), r.kinds(1)
		for count := range len(names) + 1 {
			for bits := range uint(1) << len(r.conditions) {
				if len(kinds[bits]) == 0 {
					continue
				}
				points := drawn(draw, kinds[0], count)
				if count > 0 {
					points[count-1] = pick(draw, kinds[bits])
				}
				s := across(append(points, pick(draw, rest[0])))
				var g []guarded
				for i := range s {
					g = append(g, guard(s[i].l))
					s[i].l = g[i].l
				}
				r.check(t, s...)
				whole(t, r.name, g)
			}
		}
	})
}

// TestMemoryOfAnswers: what Least and Fresh answer is new memory.
func TestMemoryOfAnswers(t *testing.T) {
	full := many(api.L1, 1, api.MaxPairs, api.L2)
	labels := []api.Label{one, three, owner, secret, full, many(api.L3, 1, api.MaxPairs, api.Star), many(api.L2, 2, 5, api.L0)}
	for _, s := range small(2) {
		labels = append(labels, s.l)
	}
	for _, a := range labels {
		for _, b := range labels {
			what := fmt.Sprintf("Least(%v, %v)", a, b)
			g := guards(a, b)
			apart(t, what, g, Least(g[0].l, g[1].l))
			kept(t, what, g, Least(g[0].l, g[1].l))
			for _, c := range []uint32{0, 1, 2, 3, 7, 99, api.MaxCat, math.MaxUint32} {
				what := fmt.Sprintf("Fresh(%v, %v, %d)", a, b, c)
				g := guards(a, b)
				w, _ := Fresh(Who{g[0].l, g[1].l}, c)
				apart(t, what, g, w.Label, w.Clear)
				w, _ = Fresh(Who{g[0].l, g[1].l}, c)
				kept(t, what, g, w.Label, w.Clear)
			}
		}
		g := guards(a)
		w, _ := Fresh(Who{g[0].l, g[0].l}, 7)
		apart(t, "Fresh of one label twice", g, w.Label, w.Clear)
		apart(t, "Least of one label twice", g, Least(g[0].l, g[0].l))
	}
}

// TestAnyLabel is P0: with labels that may not be, all calls end and nothing panics, and no memory is changed.
func TestAnyLabel(t *testing.T) {
	odd := []api.Label{
		{}, owner, {Default: math.MinInt}, {Default: api.Star, Pairs: []api.Pair{}}, many(math.MaxInt, 0, 40, math.MinInt), many(api.High, 1, 13, api.Star),
		lab(api.L1, math.MaxUint32, 99, 0, -7, 0, -7), lab(api.L1, 5, 2, 5, 2, 4, 2, 9, 0, 7, 5),
	}
	cats := []uint32{0, 1, 4, 5, 7, 9, api.MaxCat, math.MaxUint32}
	for _, a := range odd {
		for _, b := range odd {
			g := guards(a, b)
			l := []api.Label{g[0].l, g[1].l, g[0].l, g[1].l, g[1].l, g[0].l, g[0].l}
			for _, r := range allRules() {
				r.ask(l[:r.labels])
				r.ask(l[7-r.labels:])
			}
			if !isLabel(b) && Clear(Who{l[0], l[0]}, l[1]) {
				t.Errorf("%v is no label, but a clearance", b)
			}
			Least(l[0], l[1])
			for _, c := range cats {
				if w, ok := Fresh(Who{l[0], l[1]}, c); ok && (!isLabel(w.Label) || !isLabel(w.Clear)) {
					t.Errorf("Fresh(%v, %v, %d) says that %v is valid", a, b, c, w)
				}
			}
			whole(t, fmt.Sprintf("labels %v and %v", a, b), g)
		}
	}
}

// TestSameAnswers is rule 8: a call answers the same again, whatever was asked between.
func TestSameAnswers(t *testing.T) {
	all := small(1)
	var first []bool
	for range 2 {
		var answers []bool
		for _, r := range rulesOfTwo() {
			for _, a := range all {
				for _, b := range all {
					answers = append(answers, r.ask([]api.Label{a.l, b.l}))
				}
			}
		}
		for _, a := range all {
			_, ok := Fresh(Who{a.l, a.l}, 0)
			answers = append(answers, ok, same(Least(a.l, a.l), Least(a.l, a.l)))
		}
		if first != nil && !slices.Equal(answers, first) {
			t.Error("calls answer something else when they are asked again")
		}
		first = answers
	}
}
