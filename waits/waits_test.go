package waits

import (
	"fmt"
	"math"
	"math/bits"
	"slices"
	"testing"

	"glacis/api"
)

const most = 4 // alerts that wait

// edges are numbers about which 64 bits, and parts of them, come to an end.
var edges = []uint64{
	0, 1, 2, 3, 255, 256, 1<<16 - 1, 1 << 16, 1<<31 - 1, 1 << 31, 1<<32 - 1, 1 << 32, 1<<32 + 1,
	1<<53 + 1, 1<<63 - 1, 1 << 63, 1<<63 + 1, math.MaxUint64 - 1, math.MaxUint64,
}

// few are the edges among them that calls of all combinations are made of.
var few = []uint64{0, 1, 1<<32 - 1, 1 << 32, 1<<63 - 1, 1 << 63, math.MaxUint64 - 1, math.MaxUint64}

// some are numbers of alerts of which a thread has some, none those of which it has none.
var (
	some = []int{1, 2, 3, 4, 5, 255, 256, 1 << 16, 1 << 31, 1 << 32, math.MaxInt - 1, math.MaxInt}
	none = []int{0, -1, -2, -4, -256, math.MinInt32, -1 << 32, math.MinInt + 1, math.MinInt}
)

// draw is a number below n, by a fixed rule.
func draw(r *uint64, n int) int {
	*r = *r*6364136223846793005 + 1442695040888963407
	return int(*r >> 33 % uint64(n))
}

// number is any number of 64 bits, or an edge.
func number(r *uint64) uint64 {
	if draw(r, 3) == 0 {
		return edges[draw(r, len(edges))]
	}
	return uint64(draw(r, 1<<31))<<33 ^ uint64(draw(r, 1<<31))<<11 ^ uint64(draw(r, 1<<11))
}

// differ: is a bit of the one other than that of the other?
func differ(a, b uint64) bool { return bits.OnesCount64(a^b) > 0 }

// reached: may the one be taken from the other?
func reached(now, until uint64) bool {
	_, borrow := bits.Sub64(now, until, 0)
	return borrow == 0
}

// A set has a bit for each thing that may end a wait, in the chapter's order.
const (
	isGone = 1 << iota
	isChanged
	isAwake
	isAlerted
	isLate
	sets // how many sets there are
)

// holds is the set of all things that end the wait.
func holds(w Wait, l Look) int {
	set := 0
	for i, is := range []bool{
		!l.There,
		differ(l.Value, w.Value),
		differ(l.Wakes, w.Wakes),
		bits.Len(uint(max(l.Alerts, 0))) > 0,
		bits.Len64(w.Until) > 0 && reached(l.Now, w.Until),
	} {
		if is {
			set += 1 << i
		}
	}
	return set
}

// first is the reason of a set: the chapter's numbers.
func first(set int) int {
	reasons := []int{1, 1, 2, 3, 4}
	for i, reason := range reasons {
		if set>>i%2 == 1 {
			return reason
		}
	}
	return 0
}

// why asks Why, twice.
func why(t *testing.T, w Wait, l Look, want int) {
	t.Helper()
	for range 2 {
		if got := w.Why(l); got != want {
			t.Fatalf("Why of %+v for %+v is %d, not %d", w, l, got, want)
		}
	}
}

func TestNumbers(t *testing.T) {
	if got := []int{Not, Changed, Awake, Alerted, Late}; !slices.Equal(got, []int{0, 1, 2, 3, 4}) {
		t.Errorf("the reasons are %v", got)
	}
	if api.MaxAlerts != most {
		t.Errorf("MaxAlerts is %d", api.MaxAlerts)
	}
}

// TestExample: for a wait without a time, when nothing has changed, Why returns Not.
func TestExample(t *testing.T) {
	for _, x := range edges {
		for _, n := range edges {
			for _, now := range edges {
				why(t, Wait{Value: x, Wakes: n}, Look{There: true, Value: x, Wakes: n, Now: now}, Not)
			}
		}
	}
}

// TestWhyByHand holds waits that are written out.
func TestWhyByHand(t *testing.T) {
	w := Wait{Seg: 7, Off: 8, Value: 3, Wakes: 2, Until: 10}
	for _, c := range []struct {
		w    Wait
		l    Look
		want int
	}{
		{w, Look{true, 3, 2, 0, 0}, Not},
		{w, Look{true, 3, 2, 0, 9}, Not},
		{w, Look{true, 3, 2, 0, 10}, Late},
		{w, Look{true, 3, 2, 0, 11}, Late},
		{w, Look{true, 3, 2, 1, 9}, Alerted},
		{w, Look{true, 3, 2, 4, 10}, Alerted},
		{w, Look{true, 3, 3, 0, 9}, Awake},
		{w, Look{true, 3, 1, 0, 9}, Awake},
		{w, Look{true, 3, 3, 1, 10}, Awake},
		{w, Look{true, 4, 2, 0, 9}, Changed},
		{w, Look{true, 2, 3, 1, 10}, Changed},
		{w, Look{false, 3, 2, 0, 9}, Changed},
		{w, Look{false, 3, 3, 1, 10}, Changed},
		{w, Look{}, Changed},
		{Wait{}, Look{}, Changed},
		{Wait{}, Look{There: true}, Not},
		{Wait{}, Look{There: true, Now: math.MaxUint64}, Not},
		{Wait{}, Look{There: true, Alerts: 1}, Alerted},
		{Wait{}, Look{There: true, Wakes: 1}, Awake},
		{Wait{}, Look{There: true, Value: 1}, Changed},
		{Wait{Until: 1}, Look{There: true}, Not},
		{Wait{Until: 1}, Look{There: true, Now: 1}, Late},
		{Wait{Until: math.MaxUint64}, Look{There: true, Now: math.MaxUint64 - 1}, Not},
		{Wait{Until: math.MaxUint64}, Look{There: true, Now: math.MaxUint64}, Late},
		{Wait{Until: 1<<32 + 5}, Look{There: true, Now: 6}, Not},
		{Wait{Until: 1 << 63}, Look{There: true, Now: 1<<63 - 1}, Not},
		{Wait{Until: 1<<63 - 1}, Look{There: true, Now: 1 << 63}, Late},
	} {
		why(t, c.w, c.l, c.want)
	}
}

// pairs are two numbers each, that are the same, one apart (also by going round), and at other edges.
func pairs(l []uint64) [][2]uint64 {
	var all [][2]uint64
	for _, x := range l {
		all = append(all, [2]uint64{x, x - 1}, [2]uint64{x, x + 1})
		for _, y := range l {
			all = append(all, [2]uint64{x, y})
		}
	}
	return all
}

// times are a Now and an Until each: none, the least, the greatest, and those about Now.
func times(l []uint64) [][2]uint64 {
	var all [][2]uint64
	for _, now := range l {
		for _, until := range []uint64{0, 1, math.MaxUint64, now - 1, now, now + 1} {
			all = append(all, [2]uint64{now, until})
		}
	}
	return all
}

// TestWhyAll asks for all combinations, and counts that each set of the things that end a wait was among them.
func TestWhyAll(t *testing.T) {
	var seen [sets]int
	numbers, clocks := pairs(few), times(few)
	for _, there := range []bool{false, true} {
		for _, v := range numbers {
			for _, n := range numbers {
				for _, now := range clocks {
					for _, a := range []int{0, 1, 2, 4, math.MaxInt} {
						w := Wait{Seg: 5, Off: 16, Value: v[0], Wakes: n[0], Until: now[1]}
						l := Look{There: there, Value: v[1], Wakes: n[1], Alerts: a, Now: now[0]}
						set := holds(w, l)
						seen[set]++
						if got := w.Why(l); got != first(set) {
							t.Fatalf("Why of %+v for %+v is %d, not %d", w, l, got, first(set))
						}
					}
				}
			}
		}
	}
	if slices.Contains(seen[:], 0) {
		t.Fatalf("some sets of reasons never were: %v", seen)
	}
}

// TestWhySets makes, for each set of things that end a wait, waits and looks of which just these hold.
func TestWhySets(t *testing.T) {
	r := uint64(18)
	for set := range sets {
		for range 3000 {
			w := Wait{Seg: number(&r), Off: int(number(&r)), Value: number(&r), Wakes: number(&r), Until: number(&r)}
			l := Look{There: set&isGone == 0, Value: w.Value, Wakes: w.Wakes, Alerts: none[0]}
			if set&isChanged > 0 {
				l.Value ^= 1 << draw(&r, 64)
			}
			if set&isAwake > 0 {
				l.Wakes ^= 1 << draw(&r, 64)
			}
			if set&isAlerted > 0 {
				l.Alerts = some[draw(&r, len(some))]
			}
			w.Until, l.Now = timesOf(&r, set&isLate > 0)
			if holds(w, l) != set {
				t.Fatalf("%+v for %+v is not the set %b", w, l, set)
			}
			why(t, w, l, first(set))
		}
	}
}

// timesOf is an Until and a Now that end a wait, or don't: far apart, near to one another, or without an Until.
func timesOf(r *uint64, end bool) (until, now uint64) {
	a, b := number(r), number(r)
	if draw(r, 2) == 0 {
		b = a + uint64(draw(r, 3)) - 1
	}
	a, b = min(a, b), max(a, b)
	if end {
		return max(a, 1), max(b, 1)
	}
	if a == b || draw(r, 5) == 0 {
		return 0, a
	}
	return b, a
}

// TestWhyBits changes one bit of the value, and of the wakes, and then no other reason is beside it.
func TestWhyBits(t *testing.T) {
	for _, x := range edges {
		for bit := range 64 {
			other := x ^ 1<<bit
			why(t, Wait{Value: x, Wakes: 4}, Look{There: true, Value: other, Wakes: 4}, Changed)
			why(t, Wait{Value: x, Wakes: x}, Look{There: true, Value: other, Wakes: other}, Changed)
			why(t, Wait{Value: 4, Wakes: x}, Look{There: true, Value: 4, Wakes: other}, Awake)
			// The one doesn't make up for the other.
			why(t, Wait{Value: x, Wakes: other}, Look{There: true, Value: other, Wakes: x}, Changed)
		}
	}
}

// TestWhyUntil goes by all times about the edges, with and without an alert.
func TestWhyUntil(t *testing.T) {
	for _, now := range times(edges) {
		for _, until := range append([]uint64{now[1]}, edges...) {
			want := Not
			if until != 0 && until <= now[0] {
				want = Late
			}
			w := Wait{Value: 1, Wakes: 2, Until: until}
			why(t, w, Look{There: true, Value: 1, Wakes: 2, Now: now[0]}, want)
			why(t, w, Look{There: true, Value: 1, Wakes: 2, Now: now[0], Alerts: 1}, Alerted)
		}
	}
}

// TestWhyAlerts: any number from 1 on is alerts, and no other.
func TestWhyAlerts(t *testing.T) {
	for until, want := range []int{Not, Late, Late, Not} {
		w := Wait{Until: uint64(until)}
		l := Look{There: true, Now: 2}
		for _, l.Alerts = range some {
			why(t, w, l, Alerted)
		}
		for _, l.Alerts = range none {
			why(t, w, l, want)
		}
	}
}

// TestSegOff: which segment it is, and where, plays no part, whatever the reason.
func TestSegOff(t *testing.T) {
	offs := []int{math.MinInt, -1 << 32, -8, -1, 0, 1, 7, 8, 1016, 1017, 1024, 1 << 32, math.MaxInt}
	r := uint64(3)
	for range 400 {
		w := Wait{Value: uint64(draw(&r, 3)), Wakes: uint64(draw(&r, 3)), Until: uint64(draw(&r, 4))}
		l := Look{draw(&r, 4) > 0, uint64(draw(&r, 3)), uint64(draw(&r, 3)), draw(&r, 3), uint64(draw(&r, 4))}
		for _, w.Seg = range edges {
			for _, w.Off = range offs {
				why(t, w, l, first(holds(w, l)))
			}
		}
	}
}

// A model is what alerts should be: a plain list.
type model struct{ list []uint64 }

func (m *model) push(x uint64) api.Errno {
	if len(m.list) >= most {
		return api.ErrFull
	}
	m.list = slices.Concat(m.list, []uint64{x})
	return api.OK
}

func (m *model) pop() (uint64, api.Errno) {
	if len(m.list) == 0 {
		return 0, api.ErrNone
	}
	x := m.list[0]
	m.list = slices.Clone(m.list[1:])
	return x, api.OK
}

// copied is a model that has nothing in common with this one.
func (m *model) copied() *model { return &model{slices.Clone(m.list)} }

// check asks, twice, for everything that can be asked, and holds it against the model.
func check(t *testing.T, what string, a *Alerts, m *model) {
	t.Helper()
	for range 2 {
		if got := a.Len(); got != len(m.list) {
			t.Fatalf("%s: Len is %d, of %v", what, got, m.list)
		}
		if got := a.List(); !slices.Equal(got, m.list) {
			t.Fatalf("%s: List is %v, not %v", what, got, m.list)
		}
	}
}

// push and pop do one call on alerts and on their model; what is refused leaves all bytes of the alerts as they were.
func push(t *testing.T, what string, a *Alerts, m *model, x uint64) {
	t.Helper()
	was := *a
	got, want := a.Push(x), m.push(x)
	if got != want {
		t.Fatalf("%s: Push(%d) is %d, not %d", what, x, got, want)
	}
	if want != api.OK && *a != was {
		t.Fatalf("%s: Push(%d) is refused, and changed %v to %v", what, x, was, *a)
	}
	check(t, what, a, m)
}

func pop(t *testing.T, what string, a *Alerts, m *model) {
	t.Helper()
	was := *a
	got, e := a.Pop()
	want, is := m.pop()
	if got != want || e != is {
		t.Fatalf("%s: Pop is %d, %d, not %d, %d", what, got, e, want, is)
	}
	if is != api.OK && *a != was {
		t.Fatalf("%s: Pop of none changed %v to %v", what, was, *a)
	}
	check(t, what, a, m)
}

// all takes all alerts, one after the other, to the end and beyond.
func all(t *testing.T, what string, a *Alerts, m *model) {
	t.Helper()
	for range most + 2 {
		pop(t, what, a, m)
	}
	if a.Len() != 0 || *a != (Alerts{}) {
		t.Fatalf("%s: of all that was taken, %v stays", what, *a)
	}
}

// filled is alerts, and their model, of which n wait, and others were taken.
func filled(t *testing.T, n, taken int) (*Alerts, *model) {
	t.Helper()
	a, m := &Alerts{}, &model{}
	for i := range taken {
		push(t, "filled", a, m, uint64(1000+i))
		pop(t, "filled", a, m)
	}
	for i := range n {
		push(t, "filled", a, m, uint64(100+i))
	}
	return a, m
}

// TestZeroValue asks everything of alerts that no call made.
func TestZeroValue(t *testing.T) {
	var one Alerts
	var in struct {
		before uint64
		a      Alerts
		behind uint64
	}
	for _, a := range []*Alerts{&one, new(Alerts), {}, &in.a} {
		m := &model{}
		check(t, "zero value", a, m)
		pop(t, "zero value", a, m)
		push(t, "zero value", a, m, 9)
		pop(t, "zero value", a, m)
	}
	for x := range uint64(9) {
		in.a.Push(x + 1)
	}
	if in.before != 0 || in.behind != 0 || in.a.Len() != most {
		t.Errorf("alerts within another thing: %v", in)
	}
	var first Alerts
	if e := first.Push(0); e != api.OK || first.Len() != 1 || !slices.Equal(first.List(), []uint64{0}) {
		t.Errorf("Push of 0 first is %d: %v", e, first.List())
	}
}

// TestAlertsByHand goes a way that is written out.
func TestAlertsByHand(t *testing.T) {
	var a Alerts
	is := func(what string, l ...uint64) {
		t.Helper()
		if a.Len() != len(l) || !slices.Equal(a.List(), l) {
			t.Fatalf("%s: %d alerts, %v, not %v", what, a.Len(), a.List(), l)
		}
	}
	pushed := func(x uint64, want api.Errno) {
		t.Helper()
		if got := a.Push(x); got != want {
			t.Fatalf("Push(%d) is %d, not %d", x, got, want)
		}
	}
	popped := func(want uint64, is api.Errno) {
		t.Helper()
		if got, e := a.Pop(); got != want || e != is {
			t.Fatalf("Pop is %d, %d, not %d, %d", got, e, want, is)
		}
	}
	is("none")
	popped(0, api.ErrNone)
	pushed(7, api.OK)
	pushed(7, api.OK)
	pushed(0, api.OK)
	is("three", 7, 7, 0)
	pushed(math.MaxUint64, api.OK)
	is("full", 7, 7, 0, math.MaxUint64)
	pushed(5, api.ErrFull)
	pushed(7, api.ErrFull)
	is("refused", 7, 7, 0, math.MaxUint64)
	popped(7, api.OK)
	is("one taken", 7, 0, math.MaxUint64)
	pushed(1, api.OK)
	pushed(2, api.ErrFull)
	is("full again", 7, 0, math.MaxUint64, 1)
	popped(7, api.OK)
	popped(0, api.OK)
	popped(math.MaxUint64, api.OK)
	is("one", 1)
	popped(1, api.OK)
	is("none again")
	popped(0, api.ErrNone)
	popped(0, api.ErrNone)
	pushed(3, api.OK)
	is("behind none", 3)
	popped(3, api.OK)
	popped(0, api.ErrNone)
}

// way does calls that the digits of a number choose: the last of them is Pop, the one ahead of it pushes a new number, and the others push the same ones.
func way(t *testing.T, what string, a *Alerts, m *model, choice, calls, ways int) {
	t.Helper()
	same := []uint64{0, math.MaxUint64}
	for i := range calls {
		switch n := choice % ways; {
		case n == ways-1:
			pop(t, what, a, m)
		case n == ways-2:
			push(t, what, a, m, uint64(i)+1)
		default:
			push(t, what, a, m, same[n])
		}
		choice /= ways
	}
}

// TestAllOrders goes all ways of ten calls, from each number of alerts on, and all ways of calls that push the same numbers, too.
func TestAllOrders(t *testing.T) {
	for choice := range 1 << 10 {
		for n := range most + 1 {
			for taken := range most + 1 {
				a, m := filled(t, n, taken)
				way(t, "new numbers", a, m, choice, 10, 2)
				all(t, "new numbers", a, m)
			}
		}
	}
	for choice := range 59049 {
		a, m := &Alerts{}, &model{}
		way(t, "zeros too", a, m, choice, 10, 3)
		all(t, "zeros too", a, m)
	}
	for choice := range 1 << 16 {
		a, m := &Alerts{}, &model{}
		way(t, "the same numbers too", a, m, choice, 8, 4)
		all(t, "the same numbers too", a, m)
	}
}

// TestDrawnWays goes long ways, with all sorts of numbers; some ways are mostly full, others mostly without alerts.
func TestDrawnWays(t *testing.T) {
	r := uint64(4)
	var at [most + 1]int
	for range 600 {
		a, m := &Alerts{}, &model{}
		pushes := 1 + draw(&r, 9)
		for range 500 {
			if draw(&r, 10) < pushes {
				push(t, "drawn way", a, m, number(&r))
			} else {
				pop(t, "drawn way", a, m)
			}
			at[a.Len()]++
		}
		all(t, "drawn way", a, m)
	}
	if slices.Contains(at[:], 0) {
		t.Fatalf("some numbers of alerts never waited: %v", at)
	}
}

// TestLong pushes and takes more alerts than 16 bits count, with each number of them waiting.
func TestLong(t *testing.T) {
	for n := range most + 1 {
		a, m := filled(t, n, 0)
		for i := range 1<<17 + 3 {
			if n == most {
				pop(t, "long", a, m)
			}
			push(t, "long", a, m, uint64(i))
			if n < most {
				pop(t, "long", a, m)
			}
		}
		if a.Len() != n {
			t.Fatalf("of %d alerts there are %d behind a long way", n, a.Len())
		}
		all(t, "long", a, m)
	}
}

// TestSameNumber pushes one number several times: each of them counts, and comes out.
func TestSameNumber(t *testing.T) {
	for _, x := range edges {
		for n := range most + 3 {
			a, m := &Alerts{}, &model{}
			for range n {
				push(t, "the same number", a, m, x)
			}
			if a.Len() != min(n, most) {
				t.Fatalf("%d times %d: Len is %d", n, x, a.Len())
			}
			for range min(n, most) {
				if got, e := a.Pop(); got != x || e != api.OK {
					t.Fatalf("%d times %d: Pop is %d, %d", n, x, got, e)
				}
				m.pop()
			}
			all(t, "the same number", a, m)
		}
	}
}

// TestOrder has all numbers of each place be the edges: they come out as they went in.
func TestOrder(t *testing.T) {
	for _, x := range few {
		for _, y := range few {
			for _, z := range few {
				for _, u := range few {
					a, m := &Alerts{}, &model{}
					for _, n := range []uint64{x, y, z, u, x, y} {
						push(t, "order", a, m, n)
					}
					pop(t, "order", a, m)
					push(t, "order", a, m, y)
					all(t, "order", a, m)
				}
			}
		}
	}
}

// TestFull: the fifth one is refused as often as it comes, whatever it is, and there is room for one more behind each Pop.
func TestFull(t *testing.T) {
	for taken := range 2 * most {
		a, m := filled(t, most, taken)
		for _, x := range edges {
			for range 3 {
				push(t, "full", a, m, x)
				if a.Push(x) != api.ErrFull {
					t.Fatalf("a fifth alert is taken: %v", a.List())
				}
			}
			for n := 1; n <= most; n++ {
				for range n {
					pop(t, "room", a, m)
				}
				for range n {
					if e := a.Push(x); e != api.OK {
						t.Fatalf("behind %d Pops, Push is %d", n, e)
					}
					m.push(x)
				}
				push(t, "no more room", a, m, x+1)
			}
		}
	}
}

// TestNone: Pop of none is refused as often as it is asked, and the next Push is the first alert.
func TestNone(t *testing.T) {
	for n := range most + 1 {
		for taken := range most + 1 {
			a, m := filled(t, n, taken)
			all(t, "none", a, m)
			for range 20 {
				if x, e := a.Pop(); x != 0 || e != api.ErrNone {
					t.Fatalf("Pop of none is %d, %d", x, e)
				}
			}
			check(t, "none", a, m)
			for _, x := range edges {
				push(t, "behind none", a, m, x)
				if !slices.Equal(a.List(), []uint64{x}) {
					t.Fatalf("behind none, Push(%d) is %v", x, a.List())
				}
				pop(t, "behind none", a, m)
			}
		}
	}
}

// TestNothingStays: alerts are all that is kept; which way they came makes no difference.
func TestNothingStays(t *testing.T) {
	r := uint64(5)
	for range 500 {
		a, m := &Alerts{}, &model{}
		for range 60 {
			if draw(&r, 2) == 0 {
				push(t, "nothing stays", a, m, number(&r))
			} else {
				pop(t, "nothing stays", a, m)
			}
			var direct Alerts
			for _, x := range m.list {
				direct.Push(x)
			}
			if *a != direct {
				t.Fatalf("of %v, %v is kept, and %v where they were pushed alone", m.list, *a, direct)
			}
		}
	}
}

// A kept list is one that was returned, and what it should be.
type kept struct{ list, was []uint64 }

// spoil writes to all the memory of a list, and appends to it.
func (k *kept) spoil(x uint64) {
	whole := k.list[:cap(k.list)]
	for i := range whole {
		whole[i] = x
	}
	k.list = append(k.list, x, x)
	k.was = slices.Clone(k.list)
}

// TestListsApart keeps all lists that are returned: none changes when a call follows, or another list is changed, and the alerts don't change with them.
func TestListsApart(t *testing.T) {
	r := uint64(6)
	for range 300 {
		a, m := &Alerts{}, &model{}
		var lists []kept
		for i := range 60 {
			switch draw(&r, 4) {
			case 0:
				pop(t, "lists apart", a, m)
			case 1, 2:
				push(t, "lists apart", a, m, uint64(i)+1)
			default:
				got := a.List()
				lists = append(lists, kept{got, slices.Clone(got)})
				lists[draw(&r, len(lists))].spoil(1<<40 + uint64(i))
			}
			got := a.List()
			lists = append(lists, kept{got, slices.Clone(got)})
			check(t, "lists apart", a, m)
			for n, k := range lists {
				if !slices.Equal(k.list, k.was) {
					t.Fatalf("list %d is %v, was %v", n, k.list, k.was)
				}
			}
		}
	}
}

// TestListSpoiled spoils the list of each number of alerts ahead of each call.
func TestListSpoiled(t *testing.T) {
	for n := range most + 1 {
		for taken := range most + 1 {
			for choice := range 1 << 6 {
				a, m := filled(t, n, taken)
				for range 6 {
					k, other := kept{list: a.List()}, a.List()
					k.spoil(math.MaxUint64 - 7)
					if !slices.Equal(other, m.list) {
						t.Fatalf("two lists of %v share memory: %v", m.list, other)
					}
					check(t, "a list is spoiled", a, m)
					way(t, "a list is spoiled", a, m, choice%2, 1, 2)
					choice /= 2
				}
				all(t, "a list is spoiled", a, m)
			}
		}
	}
}

// TestAlertsApart does drawn calls on five alerts, some of them copies of others: each is as if it were alone.
func TestAlertsApart(t *testing.T) {
	r := uint64(7)
	for range 200 {
		var them [5]Alerts
		var models [5]*model
		for i := range models {
			models[i] = &model{}
		}
		for i := range 300 {
			at, from := draw(&r, 5), draw(&r, 5)
			switch draw(&r, 9) {
			case 0:
				them[at], models[at] = them[from], models[from].copied()
			case 1, 2, 3:
				pop(t, "alerts apart", &them[at], models[at])
			default:
				push(t, "alerts apart", &them[at], models[at], uint64(i))
			}
			for n := range them {
				check(t, "alerts apart", &them[n], models[n])
			}
		}
		for n := range them {
			all(t, "alerts apart", &them[n], models[n])
		}
	}
}

// TestAskingChangesNothing goes by pairs of alerts of which one is asked, and the other not.
func TestAskingChangesNothing(t *testing.T) {
	r := uint64(8)
	for range 200 {
		var still, asked Alerts
		for range 100 {
			for range draw(&r, 4) {
				asked.Len()
				asked.List()
			}
			if draw(&r, 2) == 0 {
				x := number(&r)
				if still.Push(x) != asked.Push(x) {
					t.Fatalf("Push of %d is not the same", x)
				}
			} else {
				x, e := still.Pop()
				if y, f := asked.Pop(); x != y || e != f {
					t.Fatalf("Pop is %d, %d, and of the one that was asked %d, %d", x, e, y, f)
				}
			}
			if still != asked {
				t.Fatalf("%v, and asked %v", still, asked)
			}
		}
	}
}

// TestNil: what nil alerts answer is left open, but they answer.
func TestNil(t *testing.T) {
	var a *Alerts
	for i := range 10 {
		what := fmt.Sprintf("nil, time %d", i)
		if e := a.Push(uint64(i)); e != api.ErrFull {
			t.Fatalf("%s: Push is %d", what, e)
		}
		if x, e := a.Pop(); x != 0 || e != api.ErrNone {
			t.Fatalf("%s: Pop is %d, %d", what, x, e)
		}
		if a.Len() != 0 || len(a.List()) != 0 {
			t.Fatalf("%s: Len is %d, List is %v", what, a.Len(), a.List())
		}
	}
}
