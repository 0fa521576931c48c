package table

import (
	"fmt"
	"math"
	"reflect"
	"slices"
	"testing"

	"glacis/api"
	"glacis/frames"
	"glacis/waits"
)

// draw is a number below n, by a fixed rule.
func draw(r *uint64, n int) int {
	*r = *r*6364136223846793005 + 1442695040888963407
	return int(*r >> 33 % uint64(n))
}

// pick is one of a list, by the same rule.
func pick[T any](r *uint64, l []T) T { return l[draw(r, len(l))] }

// others are the numbers of kinds, and numbers that are none, but for the container's.
var others = []int{
	math.MinInt, -1, 0, 2, 3, 4, 5, 6, 7, 8, 256, 257, 1<<32 + 1, math.MaxInt,
}

// object is a new object; a thread runs on core on.
func object(name, home uint64, kind, on int) *Obj {
	o := &Obj{Name: name, Home: home, Kind: kind}
	if kind == api.Thread {
		o.T = &Thread{On: on}
	}
	return o
}

// A model is what is there, in the order in which it came, with the homes and kinds that it came with.
type model struct{ list []entry }

type entry struct {
	o          *Obj
	name, home uint64
	kind, on   int
}

// at gives the place of a name in the list; -1: it isn't there.
func (m *model) at(name uint64) int {
	for i := range m.list {
		if m.list[i].name == name {
			return i
		}
	}
	return -1
}

// refusal is why an object may not come; "": it may.
func (m *model) refusal(o *Obj) string {
	switch {
	case o == nil:
		return "nil"
	case o.Name == 0:
		return "no name"
	case m.at(o.Name) >= 0:
		return "taken"
	case o.Name == 1 && o.Home == 0:
		return ""
	case m.at(o.Home) < 0:
		return "no home"
	case m.list[m.at(o.Home)].kind != 1:
		return "no container"
	}
	return ""
}

func (m *model) add(o *Obj) {
	on := 0
	if o.T != nil {
		on = o.T.On
	}
	m.list = append(m.list, entry{o, o.Name, o.Home, o.Kind, on})
}

// above are an object and all that it is in, the nearest first.
func (m *model) above(name uint64) []uint64 {
	var l []uint64
	for i := m.at(name); i >= 0; i = m.at(m.list[i].home) {
		l = append(l, m.list[i].name)
	}
	return l
}

// below are an object and all that is in it, each ahead of those in it.
func (m *model) below(name uint64) []*Obj {
	i := m.at(name)
	if i < 0 {
		return nil
	}
	l := []*Obj{m.list[i].o}
	for _, e := range m.list {
		if e.home == name {
			l = append(l, m.below(e.name)...)
		}
	}
	return l
}

func (m *model) remove(name uint64) []*Obj {
	gone := m.below(name)
	var rest []entry
	for _, e := range m.list {
		if !slices.Contains(gone, e.o) {
			rest = append(rest, e)
		}
	}
	m.list = rest
	return gone
}

// kids are the names of those in a container, in order.
func (m *model) kids(name uint64) []uint64 {
	var l []uint64
	for _, e := range m.list {
		if e.home == name {
			l = append(l, e.name)
		}
	}
	return l
}

// threads are those of a container that run on a core.
func (m *model) threads(cont uint64, on int) []*Obj {
	var l []*Obj
	for _, e := range m.list {
		if e.home == cont && e.kind == 3 && e.on == on {
			l = append(l, e.o)
		}
	}
	return l
}

// rising are all objects by their names.
func (m *model) rising() []*Obj {
	var l []*Obj
	last := uint64(0)
	for range m.list {
		next := -1
		for i, e := range m.list {
			if e.name > last && (next < 0 || e.name < m.list[next].name) {
				next = i
			}
		}
		l = append(l, m.list[next].o)
		last = m.list[next].name
	}
	return l
}

// called are the names of objects.
func called(l []*Obj) []uint64 {
	var names []uint64
	for _, o := range l {
		if o == nil {
			names = append(names, 0)
			continue
		}
		names = append(names, o.Name)
	}
	return names
}

// all is what All gives.
func all(x *Table) []*Obj {
	var l []*Obj
	for o := range x.All {
		l = append(l, o)
	}
	return l
}

// matches asks everything of a table, for some names and the cores about 0.
func matches(x *Table, m *model, some []uint64) error {
	if got := x.Len(); got != len(m.list) {
		return fmt.Errorf("Len is %d, not %d", got, len(m.list))
	}
	if got := all(x); !slices.Equal(got, m.rising()) {
		return fmt.Errorf("All gives %v, not %v", called(got), called(m.rising()))
	}
	for _, name := range some {
		var want *Obj
		if i := m.at(name); i >= 0 {
			want = m.list[i].o
		}
		if got := x.Get(name); got != want {
			return fmt.Errorf("Get of %d is %p, not %p", name, got, want)
		}
		if want != nil && !slices.Equal(want.Kids, m.kids(name)) {
			return fmt.Errorf("%d has %v, not %v", name, want.Kids, m.kids(name))
		}
		up := m.above(name)
		for _, cont := range some {
			if got := x.In(name, cont); got != slices.Contains(up, cont) {
				return fmt.Errorf("In of %d, %d is %v", name, cont, got)
			}
		}
		for _, on := range []int{-1, 0, 1, 2} {
			var want []*Obj
			if name != 0 {
				want = m.threads(name, on)
			}
			if got := x.Threads(name, on); !slices.Equal(got, want) {
				return fmt.Errorf("Threads of %d on %d are %v, not %v", name, on, called(got), called(want))
			}
		}
	}
	return nil
}

// A call adds an object, or removes one.
type call struct {
	name, home uint64
	kind, on   int
	remove     bool
}

// do makes a call of the table and of the model.
func do(x *Table, m *model, c call) error {
	if c.remove {
		got, want := x.Remove(c.name), m.remove(c.name)
		if !slices.Equal(got, want) || (len(want) == 0) != (got == nil) {
			return fmt.Errorf("Remove of %d gives %v, not %v", c.name, called(got), called(want))
		}
		return nil
	}
	o := object(c.name, c.home, c.kind, c.on)
	why := m.refusal(o)
	if got := x.Add(o); got != (why == "") {
		return fmt.Errorf("Add of %+v is %v, though %q", c, got, why)
	}
	if why == "" {
		m.add(o)
	}
	return nil
}

// TestNumbers holds the states and what the chapter takes from the limits.
func TestNumbers(t *testing.T) {
	if got := []int{Halted, Running, Waiting}; !slices.Equal(got, []int{0, 1, 2}) {
		t.Errorf("the states are %v", got)
	}
	kinds := []int{api.Container, api.Segment, api.Thread, api.AddrSpace, api.Gate, api.Device}
	if !slices.Equal(kinds, []int{1, 2, 3, 4, 5, 6}) || api.Tables != 8 {
		t.Errorf("the kinds are %v, the tables %d", kinds, api.Tables)
	}
}

// TestParts holds that an object is a lock, and a thread a core.
func TestParts(t *testing.T) {
	o := object(7, 1, api.Thread, 0)
	o.Join(9)
	if !o.Holds(9) || o.Holds(7) || o.Version() != 1 || !slices.Equal(o.Queue(), []uint64{9}) {
		t.Errorf("the lock is %v", o.Lock)
	}
	o.T.R[15], o.T.PC = 5, 8
	if o.T.Core.R[15] != 5 || o.T.Core.PC != 8 || o.PC != 0 {
		t.Errorf("the core is %v", o.T.Core)
	}
	if o.T.Step(nil) == 0 || o.T.Wait.Why(waits.Look{There: true}) != waits.Not {
		t.Error("a thread does a step without memory")
	}
}

// TestExample: after Remove of the root nothing is left.
func TestExample(t *testing.T) {
	x := New()
	for _, o := range []*Obj{object(1, 0, 1, 0), object(2, 1, 1, 0), object(3, 2, 3, 0), object(4, 1, 2, 0)} {
		if !x.Add(o) {
			t.Fatalf("no room for %d", o.Name)
		}
	}
	if got := called(x.Remove(1)); !slices.Equal(got, []uint64{1, 2, 3, 4}) {
		t.Errorf("Remove gives %v", got)
	}
	if x.Len() != 0 || len(all(x)) != 0 || x.Get(1) != nil || x.Get(3) != nil || x.In(3, 3) || x.Remove(1) != nil {
		t.Error("something is left")
	}
}

// TestNew holds a table without objects.
func TestNew(t *testing.T) {
	x := New()
	if x == nil || x == New() {
		t.Fatal("New gives no new table")
	}
	if e := matches(x, &model{}, []uint64{0, 1, 2, math.MaxUint64}); e != nil {
		t.Error(e)
	}
	for _, name := range []uint64{0, 1, 2, 1 << 63, math.MaxUint64} {
		if x.Remove(name) != nil || x.Get(name) != nil || x.In(name, name) || x.In(name, 0) {
			t.Errorf("there is %d", name)
		}
	}
}

// rest is a label with 2 in place of 0, reckoned pair by pair.
func rest(l api.Label) api.Label {
	r := api.Label{Default: l.Default}
	for _, p := range l.Pairs {
		if p.Level == 0 {
			p.Level = 2
		}
		if p.Level != l.Default {
			r.Pairs = append(r.Pairs, p)
		}
	}
	return r
}

// labels are all of three categories, and some of as many as may be.
func labels() []api.Label {
	var l []api.Label
	cats := []uint32{1, 256, 1 << 30}
	for def := 1; def <= 4; def++ {
		for ways := range 5 * 5 * 5 {
			one := api.Label{Default: def}
			for _, c := range cats {
				if ways%5 != def {
					one.Pairs = append(one.Pairs, api.Pair{Cat: c, Level: ways % 5})
				}
				ways /= 5
			}
			l = append(l, one)
		}
	}
	r := uint64(1)
	for n := range 13 {
		for def := 1; def <= 4; def++ {
			one := api.Label{Default: def}
			for i := range n {
				level := draw(&r, 4)
				if level == def {
					level = 4 * draw(&r, 2) % (def * 4)
				}
				if level != def {
					one.Pairs = append(one.Pairs, api.Pair{Cat: uint32(i*i*7 + 1), Level: level})
				}
			}
			l = append(l, one)
		}
	}
	return l
}

func same(a, b api.Label) bool {
	return a.Default == b.Default && slices.Equal(a.Pairs, b.Pairs)
}

func TestLook(t *testing.T) {
	changed := 0
	for _, l := range labels() {
		for _, kind := range append([]int{1}, others...) {
			want := l
			if kind == 3 || kind == 5 {
				want = rest(l)
			}
			if !same(l, want) {
				changed++
			}
			o := object(7, 1, kind, 0)
			o.Label = api.Label{Default: l.Default, Pairs: slices.Clone(l.Pairs)}
			o.Clear = api.Label{Default: 4, Pairs: []api.Pair{{Cat: 5, Level: 0}}}
			for range 2 {
				if got := o.Look(); !same(got, want) {
					t.Fatalf("Look of kind %d at %v is %v, not %v", kind, l, got, want)
				}
			}
			if !same(o.Label, l) {
				t.Fatalf("Look of kind %d made %v of %v", kind, o.Label, l)
			}
		}
	}
	if changed == 0 {
		t.Error("no label owns a category")
	}
}

// TestLookByHand holds labels that are written out.
func TestLookByHand(t *testing.T) {
	own := api.Label{Default: api.L1, Pairs: []api.Pair{{Cat: 3, Level: api.Star}, {Cat: 9, Level: api.L3}}}
	high := api.Label{Default: api.L3, Pairs: []api.Pair{{Cat: 3, Level: api.Star}}}
	for _, c := range []struct {
		kind    int
		l, want api.Label
	}{
		{api.Thread, own, api.Label{Default: 2, Pairs: []api.Pair{{Cat: 9, Level: 4}}}},
		{api.Gate, own, api.Label{Default: 2, Pairs: []api.Pair{{Cat: 9, Level: 4}}}},
		{api.Thread, high, api.Label{Default: 4, Pairs: []api.Pair{{Cat: 3, Level: 2}}}},
		{api.Gate, high, api.Label{Default: 4, Pairs: []api.Pair{{Cat: 3, Level: 2}}}},
		{api.Container, own, own},
		{api.Segment, own, own},
		{api.AddrSpace, high, high},
		{api.Device, own, own},
		{0, high, high},
		{7, own, own},
	} {
		o := &Obj{Kind: c.kind, Label: c.l}
		if got := o.Look(); !same(got, c.want) {
			t.Errorf("Look of kind %d is %v, not %v", c.kind, got, c.want)
		}
	}
}

// TestLookIsNew holds that what Look gave and the object have no memory in common.
func TestLookIsNew(t *testing.T) {
	for kind := range 8 {
		pairs := make([]api.Pair, 2, 5)
		pairs[0], pairs[1] = api.Pair{Cat: 3, Level: 3}, api.Pair{Cat: 9, Level: 4}
		o := &Obj{Kind: kind, Label: api.Label{Default: 2, Pairs: pairs}}
		want := api.Label{Default: 2, Pairs: []api.Pair{{Cat: 3, Level: 3}, {Cat: 9, Level: 4}}}
		first, second := o.Look(), o.Look()
		first.Pairs[0] = api.Pair{Cat: 77, Level: 0}
		_ = append(first.Pairs[:1], api.Pair{Cat: 78}, api.Pair{Cat: 79})
		if !same(second, want) || !same(o.Label, want) || !same(o.Look(), want) || pairs[:3][2].Cat != 0 {
			t.Errorf("kind %d: a label that was returned is the object's", kind)
		}
		o.Label.Pairs[1] = api.Pair{Cat: 80, Level: 1}
		if !same(second, want) {
			t.Errorf("kind %d: a label that was returned changes with the object's", kind)
		}
	}
}

func TestCost(t *testing.T) {
	pool := frames.New(300)
	for n := range 17 {
		for _, kind := range append([]int{1}, others...) {
			o := &Obj{Kind: kind}
			if !o.Seg.Resize(pool, 7, n) {
				t.Fatalf("no %d pages", n)
			}
			for _, o.T = range []*Thread{nil, {}, {Tables: 3}, {Tables: 8, Root: 5}} {
				want := int64(1)
				switch kind {
				case 2:
					want += int64(n)
				case 3:
					want += 8
				}
				for range 2 {
					if got := o.Cost(); got != want {
						t.Fatalf("Cost of kind %d with %d pages is %d, not %d", kind, n, got, want)
					}
				}
			}
			o.Seg.Resize(pool, 7, 0)
		}
	}
}

// TestCostFollows holds that a segment's cost is that of the pages that it has now.
func TestCostFollows(t *testing.T) {
	pool := frames.New(20)
	o := object(7, 1, api.Segment, 0)
	for _, n := range []int{0, 1, 16, 3, 3, 0, 2} {
		o.Seg.Resize(pool, 7, n)
		if got := o.Cost(); got != int64(n)+1 {
			t.Errorf("Cost with %d pages is %d", n, got)
		}
	}
	o.Seg.Resize(pool, 7, 17)
	if got := o.Cost(); got != 3 {
		t.Errorf("Cost with 2 pages is %d", got)
	}
}

// few are the names that the calls of all orders have, and some more.
var few = []uint64{0, 1, 2, 3, 4, 5, math.MaxUint64}

// orders makes all orders of n calls behind some first ones.
func orders(t *testing.T, first, calls []call, n int) {
	t.Helper()
	way := make([]int, n)
	for {
		x, m := New(), &model{}
		for i := range len(first) + n {
			c := call{}
			if i < len(first) {
				c = first[i]
			} else {
				c = calls[way[i-len(first)]]
			}
			e := do(x, m, c)
			if e == nil && i == len(first)+n-1 {
				e = matches(x, m, few)
			}
			if e != nil {
				t.Fatalf("%v, then %v of %+v: %v", first, way, calls, e)
			}
		}
		i := 0
		for i < n && way[i] == len(calls)-1 {
			way[i] = 0
			i++
		}
		if i == n {
			return
		}
		way[i]++
	}
}

// TestOrders makes all orders of a few calls; the ways that are shorter by one are those that begin with a call that does nothing.
func TestOrders(t *testing.T) {
	calls := []call{
		{name: 5, remove: true},
		{name: 1, kind: 1},
		{name: 1, kind: 3, on: 1},
		{name: 2, home: 1, kind: 1},
		{name: 3, home: 2, kind: 3, on: 1},
		{name: 3, home: 1, kind: 1},
		{name: 4, home: 3, kind: 3},
		{name: 4, home: 1, kind: 3, on: 1},
		{name: 2, home: 3, kind: 1},
		{name: 1, remove: true},
		{name: 2, remove: true},
		{name: 3, remove: true},
	}
	orders(t, nil, calls, 5)
	orders(t, []call{{name: 1, kind: 1}}, calls, 5)
	if !testing.Short() {
		orders(t, []call{{name: 1, kind: 1}, {name: 2, home: 1, kind: 1}}, calls, 4)
		orders(t, []call{{name: 1, kind: 1}, {name: 3, home: 1, kind: 1}, {name: 2, home: 3, kind: 1}, {name: 4, home: 3, kind: 3, on: 2}}, calls, 4)
	}
}

// many are the names of the drawn ways, small and great ones.
var many = []uint64{
	0, 1, 2, 3, 4, 5, 6, 7, 8, 9, 10, 11, 1<<22 - 1, 1 << 22, 1<<31 + 1, 1<<32 + 1, 1<<32 + 2, 1<<63 - 1, 1 << 63, 1<<63 + 1,
	math.MaxUint64 - 1, math.MaxUint64,
}

// drawn is a call that mostly may be made.
func drawn(r *uint64, m *model) call {
	c := call{name: pick(r, many), kind: draw(r, 8), on: draw(r, 3)}
	if draw(r, 3) == 0 {
		c.kind = 1
	}
	if draw(r, 3) == 0 {
		c.kind = 3
	}
	if len(m.list) == 0 {
		c.name = 1
		c.kind = pick(r, []int{1, 1, 1, 1, 1, 1, 1, 1, c.kind})
		return c
	}
	c.home = pick(r, m.list).name
	if draw(r, 12) == 0 {
		c.home = pick(r, many)
	}
	c.remove = draw(r, 5) == 0
	// The root goes seldom, as all others go with it.
	if c.remove && c.name == 1 && draw(r, 10) > 0 {
		c.name = pick(r, many)
	}
	return c
}

// TestDrawn makes long ways, and counts that each way to refuse an object was among them.
func TestDrawn(t *testing.T) {
	told := map[string]int{}
	greatest, again := 0, 0
	for seed := range uint64(60) {
		r := seed
		x, m := New(), &model{}
		gone := map[uint64]bool{}
		for i := range 400 {
			c := drawn(&r, m)
			if !c.remove {
				why := m.refusal(object(c.name, c.home, c.kind, c.on))
				told[why]++
				if why == "" && gone[c.name] {
					again++
				}
			} else if i := m.at(c.name); i >= 0 {
				gone[c.name] = true
				told["removed"] += len(m.below(c.name))
			} else {
				told["not there"]++
			}
			e := do(x, m, c)
			if e == nil {
				e = matches(x, m, many)
			}
			if e != nil {
				t.Fatalf("seed %d, call %d, %+v: %v", seed, i, c, e)
			}
			greatest = max(greatest, len(m.list))
		}
	}
	for _, why := range []string{"", "no name", "taken", "no home", "no container", "removed", "not there"} {
		if told[why] < 100 {
			t.Errorf("%q was met %d times", why, told[why])
		}
	}
	if greatest < 15 || again < 100 {
		t.Errorf("at most %d objects, %d names again", greatest, again)
	}
}

// image is all that an object has, without what leads to others.
func image(o *Obj) string {
	c := *o
	c.T, c.Kids = nil, nil
	text := fmt.Sprintf("%+v", c)
	if o.T != nil {
		text += fmt.Sprintf("%+v", *o.T)
	}
	return text
}

// full is an object that has something of everything.
func full(r *uint64, name, home uint64, kind int) *Obj {
	pool := frames.New(40)
	o := &Obj{Name: name, Home: home, Kind: kind, Info: uint64(draw(r, 99)), Meta: 5, Wakes: 6, Space: 7, PC: 8}
	o.Label = api.Label{Default: 2, Pairs: []api.Pair{{Cat: 3, Level: 0}, {Cat: 4, Level: 4}}}
	o.Clear = api.Label{Default: 4, Pairs: []api.Pair{{Cat: 3, Level: 0}}}
	o.Purse.Limit, o.Purse.Used, o.Purse.Given = 50, 20, 10
	o.Names.Lo, o.Names.Next, o.Names.Hi = 100, 110, 120
	o.Maps = []api.Map{{At: 1, Seg: 2, N: 3}}
	o.Seg.Resize(pool, name, 1+draw(r, 4))
	o.Ring.Push([]byte{1, 2, 3})
	o.Ring.Put(9)
	o.Join(9)
	o.Join(7)
	o.T = &Thread{State: Waiting, On: draw(r, 2), Root: 3, Tables: 4, Made: 5, Fault: 6, Space: 7, Clear: o.Clear}
	o.T.R[3], o.T.PC = 4, 16
	o.T.Wait = waits.Wait{Seg: 5, Value: 6}
	o.T.Alerts.Push(8)
	o.T.Cont = Cont{Phase: 2, Locks: []uint64{1, 2}, Next: 1, Reads: []uint64{3}, Seen: []uint64{4}, Tries: 1, Picks: []uint64{5, 6}}
	return o
}

// TestContents holds that no call changes an object that was passed, but for the Kids of homes.
func TestContents(t *testing.T) {
	for seed := range uint64(12) {
		r := seed
		x, m := New(), &model{}
		before := map[*Obj]string{}
		for i := range 60 {
			c := drawn(&r, m)
			if c.remove {
				x.Remove(c.name)
				m.remove(c.name)
			} else {
				o := full(&r, c.name, c.home, c.kind)
				before[o] = image(o)
				why := m.refusal(o)
				if x.Add(o) != (why == "") {
					t.Fatalf("seed %d: Add of %+v, though %q", seed, c, why)
				}
				if why == "" {
					m.add(o)
				} else if o.Kids != nil {
					t.Fatalf("seed %d: %d, which was refused, has %v", seed, o.Name, o.Kids)
				}
			}
			x.Threads(c.home, c.on)
			x.In(c.name, c.home)
			for o := range x.All {
				o.Look()
				o.Cost()
			}
			if e := matches(x, m, many); e != nil {
				t.Fatalf("seed %d, call %d: %v", seed, i, e)
			}
			for o, want := range before {
				if got := image(o); got != want {
					t.Fatalf("seed %d, call %d: %s was %s", seed, i, got, want)
				}
			}
		}
	}
}

// world is a table with some objects, and its model.
func world(t *testing.T) (*Table, *model) {
	t.Helper()
	x, m := New(), &model{}
	for _, c := range []call{
		{name: 1, kind: 1}, {name: 5, home: 1, kind: 1}, {name: 9, home: 5, kind: 3, on: 1}, {name: 7, home: 5, kind: 3, on: 1},
		{name: 8, home: 5, kind: 2}, {name: 3, home: 1, kind: 3, on: 1}, {name: 6, home: 5, kind: 1}, {name: 4, home: 6, kind: 3, on: 1},
		{name: 2, home: 6, kind: 3}, {name: 10, home: 5, kind: 3}, {name: 1 << 40, home: 1, kind: 1}, {name: math.MaxUint64, home: 1 << 40, kind: 6},
	} {
		if e := do(x, m, c); e != nil {
			t.Fatal(e)
		}
	}
	return x, m
}

// of are the names of a world, and some that it hasn't.
var of = []uint64{0, 1, 2, 3, 4, 5, 6, 7, 8, 9, 10, 11, 1 << 32, 1 << 40, 1<<40 + 1, math.MaxUint64}

// TestByHand holds a world that is written out.
func TestByHand(t *testing.T) {
	x, _ := world(t)
	equal := func(what string, got []*Obj, want ...uint64) {
		t.Helper()
		if !slices.Equal(called(got), want) {
			t.Errorf("%s: %v, not %v", what, called(got), want)
		}
	}
	equal("All", all(x), 1, 2, 3, 4, 5, 6, 7, 8, 9, 10, 1<<40, math.MaxUint64)
	equal("5 on 1", x.Threads(5, 1), 9, 7)
	equal("5 on 0", x.Threads(5, 0), 10)
	equal("5 on 2", x.Threads(5, 2))
	equal("5 on -1", x.Threads(5, -1))
	equal("1 on 1", x.Threads(1, 1), 3)
	equal("1 on 0", x.Threads(1, 0))
	equal("6 on 1", x.Threads(6, 1), 4)
	equal("0 on 1", x.Threads(0, 1))
	equal("9 on 1", x.Threads(9, 1))
	equal("8 on 0", x.Threads(8, 0))
	equal("11 on 0", x.Threads(11, 0))
	for name, cont := range map[uint64]uint64{4: 6, 2: 5, 9: 1, 8: 8, 1: 1, 6: 5, math.MaxUint64: 1 << 40} {
		if !x.In(name, cont) {
			t.Errorf("%d is not in %d", name, cont)
		}
	}
	for name, cont := range map[uint64]uint64{6: 4, 5: 6, 1: 5, 3: 5, 9: 7, 4: 8, 0: 0, 11: 11, 7: 0, 8: 1 << 40, 12: 1} {
		if x.In(name, cont) {
			t.Errorf("%d is in %d", name, cont)
		}
	}
	equal("Remove of 6", x.Remove(6), 6, 4, 2)
	equal("Remove of 6 again", x.Remove(6))
	equal("Remove of 4", x.Remove(4))
	if got := x.Get(5).Kids; !slices.Equal(got, []uint64{9, 7, 8, 10}) {
		t.Errorf("5 has %v", got)
	}
	equal("Remove of 9", x.Remove(9), 9)
	if !x.Add(object(9, 5, 3, 1)) || !x.Add(object(4, 5, 3, 1)) {
		t.Error("a name doesn't come again")
	}
	equal("5 on 1 again", x.Threads(5, 1), 7, 9, 4)
	equal("Remove of 5", x.Remove(5), 5, 7, 8, 10, 9, 4)
	if got := x.Get(1).Kids; !slices.Equal(got, []uint64{3, 1 << 40}) {
		t.Errorf("1 has %v", got)
	}
	equal("Remove of 1", x.Remove(1), 1, 3, 1<<40, math.MaxUint64)
	if x.Len() != 0 || !x.Add(object(1, 0, 2, 0)) || x.Len() != 1 {
		t.Error("there is no root again")
	}
}

// TestRefused holds each reason to refuse an object, and that it changed nothing.
func TestRefused(t *testing.T) {
	x, m := world(t)
	refuse := func(o *Obj, what string) {
		t.Helper()
		if x.Add(o) {
			t.Errorf("there is room for %s", what)
		}
		if e := matches(x, m, of); e != nil {
			t.Fatalf("refused, %s: %v", what, e)
		}
	}
	refuse(nil, "nil")
	for _, kind := range append([]int{1}, others...) {
		for _, home := range of {
			refuse(object(0, home, kind, 0), "no name")
			for _, e := range slices.Clone(m.list) {
				refuse(object(e.name, home, kind, 1), "a name that is there")
				refuse(e.o, "one that is there")
			}
		}
		for _, home := range []uint64{0, 11, 12, 1 << 32, 1<<40 + 1, math.MaxUint64 - 1} {
			refuse(object(12, home, kind, 0), "one without a home")
		}
		refuse(object(12, 12, kind, 0), "one in itself")
		refuse(object(1, 0, kind, 0), "a second root")
		for _, home := range []uint64{2, 3, 4, 7, 8, 9, 10, math.MaxUint64} {
			refuse(object(12, home, kind, 0), "one in no container")
		}
	}
}

// TestHomes holds that only a container is a home, whatever is in it.
func TestHomes(t *testing.T) {
	for _, kind := range others {
		x, m := New(), &model{}
		for _, c := range []call{
			{name: 1, kind: 1}, {name: 2, home: 1, kind: kind}, {name: 3, home: 2, kind: 1}, {name: 3, home: 2, kind: 3},
			{name: 3, home: 2, kind: kind}, {name: 3, home: 1, kind: kind}, {name: 2, remove: true}, {name: 2, home: 1, kind: 1},
			{name: 4, home: 2, kind: kind},
		} {
			e := do(x, m, c)
			if e == nil {
				e = matches(x, m, few)
			}
			if e != nil {
				t.Fatalf("kind %d: %+v: %v", kind, c, e)
			}
		}
		if x.Len() != 4 {
			t.Errorf("kind %d: there are %d", kind, x.Len())
		}
	}
}

// TestRoots holds that the root needs no home, whatever its kind, and no other one does without.
func TestRoots(t *testing.T) {
	for _, kind := range append([]int{1}, others...) {
		x := New()
		for _, c := range [][2]uint64{{0, 0}, {2, 0}, {0, 1}, {1, 1}, {1, 2}, {2, 1}, {2, 2}, {math.MaxUint64, 0}, {1, math.MaxUint64}, {1<<32 + 1, 0}, {1, 1 << 32}} {
			if x.Add(object(c[0], c[1], kind, 0)) || x.Len() != 0 || x.Get(c[0]) != nil {
				t.Errorf("kind %d: there is %v", kind, c)
			}
		}
		o := object(1, 0, kind, 0)
		if !x.Add(o) || x.Get(1) != o || x.Len() != 1 || !x.In(1, 1) || x.In(1, 0) {
			t.Errorf("kind %d: no root", kind)
		}
		// Its Kids are none, as nobody is its home.
		if len(o.Kids) != 0 || x.Add(object(2, 0, kind, 0)) || x.Add(object(2, 1, 2, 0)) != (kind == 1) {
			t.Errorf("kind %d: it has %v", kind, o.Kids)
		}
		if got := x.Remove(1); got[0] != o || x.Len() != 0 {
			t.Errorf("kind %d: Remove gives %v", kind, called(got))
		}
		if again := object(1, 0, 1, 0); !x.Add(again) || x.Get(1) != again || !x.Add(object(2, 1, kind, 0)) {
			t.Errorf("kind %d: no root again", kind)
		}
	}
}

// TestStop holds that All is done once it is said so, after each number of objects.
func TestStop(t *testing.T) {
	x, m := world(t)
	want := m.rising()
	for n := 1; n <= len(want)+2; n++ {
		var got []*Obj
		x.All(func(o *Obj) bool {
			got = append(got, o)
			return len(got) < n
		})
		if !slices.Equal(got, want[:min(n, len(want))]) {
			t.Errorf("after %d: %v", n, called(got))
		}
	}
	for n := range want {
		i := 0
		for o := range x.All {
			if o != want[i] {
				t.Errorf("%d instead of %d", o.Name, want[i].Name)
			}
			if i == n {
				break
			}
			i++
		}
	}
	if e := matches(x, m, of); e != nil {
		t.Error(e)
	}
}

// TestAllWithin makes calls from within All: no removed object is given, and none that is no object.
func TestAllWithin(t *testing.T) {
	x, _ := world(t)
	var got []uint64
	for o := range x.All {
		got = append(got, o.Name)
		for p := range x.All {
			if !x.In(p.Name, p.Home) && p.Home != 0 {
				t.Errorf("%d is not in its home", p.Name)
			}
		}
		if o.Name == 3 {
			x.Remove(6)
		}
		if o.Name == 8 {
			x.Remove(9)
			x.Add(object(9, 1, 1, 0))
		}
	}
	if want := []uint64{1, 2, 3, 5, 7, 8, 9, 10, 1 << 40, math.MaxUint64}; !slices.Equal(got, want) {
		t.Errorf("All gives %v", got)
	}
	got = nil
	for o := range x.All {
		got = append(got, o.Name)
		x.Remove(o.Name)
	}
	if !slices.Equal(got, []uint64{1}) || x.Len() != 0 {
		t.Errorf("All gives %v, %d are left", got, x.Len())
	}
}

// TestSpoiled changes lists that were returned, and appends to them.
func TestSpoiled(t *testing.T) {
	x, m := world(t)
	spoil := func(l []*Obj) {
		for i := range l {
			l[i] = nil
		}
		l = append(l, object(99, 1, 1, 0), nil)
		for i := range l[:cap(l)] {
			l[:cap(l)][i] = nil
		}
	}
	for _, name := range of {
		for on := range 2 {
			spoil(x.Threads(name, on))
			spoil(x.Threads(name, on))
		}
	}
	if e := matches(x, m, of); e != nil {
		t.Error(e)
	}
	for _, name := range []uint64{4, 11, 9, 6, 5, 1} {
		got := x.Remove(name)
		if want := m.remove(name); !slices.Equal(got, want) {
			t.Errorf("Remove of %d gives %v", name, called(got))
		}
		spoil(got)
		if e := matches(x, m, of); e != nil {
			t.Error(e)
		}
		// Names that were given may come again.
		for _, c := range []call{{name: 1, kind: 1}, {name: name, home: 1, kind: 1}, {name: 12, home: name, kind: 3}, {name: 12, remove: true}} {
			if e := do(x, m, c); e != nil {
				t.Error(e)
			}
		}
	}
}

// TestTwo holds two lists that one table returned apart.
func TestTwo(t *testing.T) {
	x, _ := world(t)
	a, b := x.Threads(5, 1), x.Threads(5, 1)
	a[0] = nil
	_ = append(a[:1], nil)
	if !slices.Equal(called(b), []uint64{9, 7}) {
		t.Errorf("a list is %v", called(b))
	}
	// A list stays what it was, whatever comes.
	x.Add(object(11, 5, 3, 1))
	gone := x.Remove(5)
	x.Add(object(5, 1, 1, 0))
	x.Add(object(9, 5, 1, 0))
	if !slices.Equal(called(b), []uint64{9, 7}) || !slices.Equal(called(gone), []uint64{5, 9, 7, 8, 6, 4, 2, 10, 11}) {
		t.Errorf("the lists are %v and %v", called(b), called(gone))
	}
}

// TestKidsApart holds that a list of Kids that somebody has kept, or appends to, is not the one that the table goes on with.
func TestKidsApart(t *testing.T) {
	x, m := world(t)
	for i, c := range []call{
		{name: 11, home: 5, kind: 3}, {name: 9, remove: true}, {name: 12, home: 5, kind: 1}, {name: 13, home: 5, kind: 1},
		{name: 11, remove: true}, {name: 10, remove: true}, {name: 11, home: 5, kind: 2}, {name: 5, remove: true},
	} {
		kept := *x.Get(5)
		was := slices.Clone(kept.Kids)
		_ = append(kept.Kids, 99, 98)
		if e := do(x, m, c); e != nil {
			t.Fatal(e)
		}
		if !slices.Equal(kept.Kids, was) {
			t.Errorf("call %d: a copy has %v, and had %v", i, kept.Kids, was)
		}
		_ = append(kept.Kids, 97, 96)
		if e := matches(x, m, of); e != nil {
			t.Errorf("call %d: %v", i, e)
		}
	}
	// Two objects of one list of Kids have it each for itself behind the first change.
	list := make([]uint64, 0, 9)
	a, b := object(1, 0, 1, 0), object(2, 1, 1, 0)
	a.Kids, b.Kids = list, list
	y, n := New(), &model{}
	for _, o := range []*Obj{a, b} {
		if !y.Add(o) {
			t.Fatal(o.Name)
		}
		n.add(o)
	}
	for _, c := range []call{{name: 3, home: 2, kind: 3}, {name: 4, home: 1, kind: 3}, {name: 5, home: 2, kind: 1}} {
		if e := do(y, n, c); e != nil {
			t.Fatal(e)
		}
	}
	if e := matches(y, n, few); e != nil || list[:9][0] != 0 {
		t.Error(e, list[:9])
	}
}

// TestApart moves several tables by turns.
func TestApart(t *testing.T) {
	var x [3]*Table
	var m [3]model
	for i := range x {
		x[i] = New()
	}
	r := uint64(5)
	for range 300 {
		i := draw(&r, len(x))
		if e := do(x[i], &m[i], drawn(&r, &m[i])); e != nil {
			t.Fatal(e)
		}
		for j := range x {
			if e := matches(x[j], &m[j], many); e != nil {
				t.Fatalf("table %d behind a call of %d: %v", j, i, e)
			}
		}
	}
}

// TestBack adds the same objects again that were removed.
func TestBack(t *testing.T) {
	x, m := world(t)
	for _, name := range []uint64{9, 6, 5, 1 << 40, 5, 3, 1} {
		gone := x.Remove(name)
		if !slices.Equal(gone, m.remove(name)) {
			t.Fatalf("Remove of %d gives %v", name, called(gone))
		}
		for _, o := range gone {
			if !x.Add(o) {
				t.Fatalf("no room for %d", o.Name)
			}
			m.add(o)
		}
		if e := matches(x, m, of); e != nil {
			t.Fatal(e)
		}
	}
}

// TestElsewhere adds a container again, whose things have come elsewhere meanwhile.
func TestElsewhere(t *testing.T) {
	x, _ := world(t)
	gone := x.Remove(5)
	for _, o := range []*Obj{object(9, 1, 3, 1), object(7, 1, 1, 0), gone[0]} {
		if !x.Add(o) {
			t.Fatalf("no room for %d", o.Name)
		}
	}
	if got := x.Threads(5, 1); len(got) != 0 {
		t.Errorf("Threads are %v", called(got))
	}
	if x.In(9, 5) || x.In(7, 5) {
		t.Error("what came elsewhere is in it")
	}
	if got := called(x.Remove(5)); !slices.Equal(got, []uint64{5}) || x.Len() != 6 {
		t.Errorf("Remove gives %v, %d are left", got, x.Len())
	}
}

// TestOutside sets fields of objects that are there.
func TestOutside(t *testing.T) {
	x, _ := world(t)
	x.Get(9).T.On = 0
	x.Get(5).Kids = []uint64{6, 10, 9, 8, 7}
	if got := called(x.Threads(5, 0)); !slices.Equal(got, []uint64{10, 9}) {
		t.Errorf("Threads on 0 are %v", got)
	}
	if got := called(x.Threads(5, 1)); !slices.Equal(got, []uint64{7}) {
		t.Errorf("Threads on 1 are %v", got)
	}
	for _, state := range []int{Halted, Running, Waiting} {
		x.Get(7).T.State = state
		if len(x.Threads(5, 1)) != 1 {
			t.Errorf("a thread of state %d is none", state)
		}
	}
	x.Get(7).Label = api.Label{Default: 3}
	if got := x.Get(7).Look(); !same(got, api.Label{Default: 3}) {
		t.Errorf("Look is %v", got)
	}
	// One that moves from home to home.
	x.Get(5).Kids = []uint64{6, 10, 9, 8}
	x.Get(1).Kids = append([]uint64{7}, x.Get(1).Kids...)
	x.Get(7).Home = 1
	if x.In(7, 5) || !x.In(7, 1) || len(x.Threads(5, 1)) != 0 || !slices.Equal(called(x.Threads(1, 1)), []uint64{7, 3}) {
		t.Error("it has not moved")
	}
	if got := called(x.Remove(5)); !slices.Equal(got, []uint64{5, 6, 4, 2, 10, 9, 8}) {
		t.Errorf("Remove gives %v", got)
	}
	// What has a container's Kids, and is none any more, has no threads.
	x.Get(1).Kind = api.Segment
	if len(x.Threads(1, 1)) != 0 {
		t.Error("a segment has threads")
	}
}

// TestDeep nests containers, and takes them in one call.
func TestDeep(t *testing.T) {
	const depth = 1 << 16
	x := New()
	for name := uint64(1); name <= depth; name++ {
		if !x.Add(object(name, name-1, 1, 0)) {
			t.Fatalf("no room for %d", name)
		}
	}
	if !x.In(depth, 1) || !x.In(depth, depth/2) || x.In(1, depth) || x.In(depth, 0) || x.In(depth, depth+1) {
		t.Error("they are not in each other")
	}
	gone := x.Remove(2)
	if len(gone) != depth-1 || x.Len() != 1 || len(x.Get(1).Kids) != 0 {
		t.Fatalf("Remove gives %d", len(gone))
	}
	for i, o := range gone {
		if o.Name != uint64(i)+2 {
			t.Fatalf("%d is at %d", o.Name, i)
		}
	}
}

// TestWide has many objects in one container.
func TestWide(t *testing.T) {
	const n = 3000
	x := New()
	x.Add(object(1, 0, 1, 0))
	for i := range uint64(n) {
		// 7 and n have no divisor in common, so that each name comes once.
		if !x.Add(object(2+i*7%n, 1, 3, int(i%4))) {
			t.Fatal(i)
		}
	}
	for on := range 4 {
		for i, o := range x.Threads(1, on) {
			if o.Name != 2+uint64(i*4+on)*7%n {
				t.Fatalf("%d is at %d of core %d", o.Name, i, on)
			}
		}
	}
	next := uint64(1)
	for o := range x.All {
		if o.Name != next {
			t.Fatalf("%d instead of %d", o.Name, next)
		}
		next++
	}
	if next != n+2 || x.Len() != n+1 || len(x.Remove(1)) != n+1 {
		t.Errorf("All gives %d", next-1)
	}
}

// TestEnds makes objects that the chapter knows nothing of: each call ends.
func TestEnds(t *testing.T) {
	x := New()
	for _, o := range []*Obj{object(1, 0, 1, 0), object(2, 1, 1, 0), object(3, 2, 1, 0), {Name: 4, Home: 3, Kind: 3}} {
		o.Kids = []uint64{0, 1, 2, 3, 4, 4, 9}
		if !x.Add(o) {
			t.Fatal(o.Name)
		}
	}
	x.Get(2).Home = 3
	for _, name := range few {
		for _, cont := range few {
			x.In(name, cont)
			x.Threads(name, int(cont))
		}
	}
	if x.In(4, 1) || !x.In(4, 2) || !x.In(2, 3) {
		t.Error("homes lead wrongly")
	}
	if got := called(x.Remove(2)); !slices.Equal(got, []uint64{2, 3, 4}) || x.Len() != 1 {
		t.Errorf("Remove gives %v", got)
	}
	// One that has another name than it came with goes by the one that it came with, and what is in it goes too.
	x.Add(object(7, 1, 1, 0))
	x.Add(object(8, 7, 3, 0))
	x.Get(7).Name = 70
	if x.Get(70) != nil || x.Remove(70) != nil || len(x.Remove(7)) != 2 || x.Get(7) != nil || x.Get(8) != nil || slices.Contains(x.Get(1).Kids, 7) {
		t.Error("an object with another name stays")
	}
	// One object by two names, in itself.
	o := object(5, 1, 1, 0)
	x.Add(o)
	o.Name, o.Home = 6, 5
	x.Add(o)
	if x.In(6, 1) || !x.In(6, 5) || len(x.Remove(5)) > 2 || len(x.Remove(6)) > 1 || len(x.Remove(1)) != 1 {
		t.Error("an object in itself")
	}
}

// TestNil asks what is no object, and no table.
func TestNil(t *testing.T) {
	var o *Obj
	if !reflect.DeepEqual(o.Look(), api.Label{}) || o.Cost() != 0 {
		t.Error("a nil object has something")
	}
	var x *Table
	x.All(nil)
	x.All(func(*Obj) bool { t.Error("a nil table has something"); return true })
	if x.Get(1) != nil || x.Add(object(1, 0, 1, 0)) || x.Add(nil) || x.Remove(1) != nil || x.Len() != 0 || x.Threads(1, 0) != nil || x.In(0, 0) || x.In(1, 1) {
		t.Error("a nil table has something")
	}
	y, m := world(t)
	y.All(nil)
	if e := matches(y, m, of); e != nil {
		t.Error(e)
	}
	var z Table
	if z.Len() != 0 || z.Remove(1) != nil || !z.Add(object(1, 0, 1, 0)) || z.Len() != 1 {
		t.Error("a table that New didn't make")
	}
	// A thread without what a thread has, and labels that are none.
	z.Add(&Obj{Name: 2, Home: 1, Kind: 3, Label: api.Label{Default: -5, Pairs: []api.Pair{{Cat: 9, Level: 77}, {Cat: 9}, {Cat: 0, Level: -1}}}})
	z.Get(2).Look()
	if z.Get(2).Cost() != 9 || len(z.Threads(1, 0)) != 0 {
		t.Error("a thread without what a thread has")
	}
}
