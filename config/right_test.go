package config

import (
	"fmt"
	"math"
	"slices"
	"testing"

	"glacis/api"
)

// A field is a number of a configuration.
type field struct {
	name string
	set  func(c *api.Config, n int)
}

func fieldsOfObject(c api.Config, i int) []field {
	what := named(c, i)
	l := []field{
		{what + ": kind", func(c *api.Config, n int) { c.Objects[i].Kind = n }},
		{what + ": parent", func(c *api.Config, n int) { c.Objects[i].Parent = n }},
		{what + ": pages", func(c *api.Config, n int) { c.Objects[i].Pages = n }},
		{what + ": names", func(c *api.Config, n int) { c.Objects[i].Names = n }},
		{what + ": space", func(c *api.Config, n int) { c.Objects[i].Space = n }},
		{what + ": place", func(c *api.Config, n int) { c.Objects[i].PC = n }},
	}
	for j := range c.Objects[i].Maps {
		what := fmt.Sprintf("%s, map %d", what, j)
		l = append(l,
			field{what + ": at", func(c *api.Config, n int) { c.Objects[i].Maps[j].At = n }},
			field{what + ": seg", func(c *api.Config, n int) { c.Objects[i].Maps[j].Seg = uint64(n) }},
			field{what + ": from", func(c *api.Config, n int) { c.Objects[i].Maps[j].From = n }},
			field{what + ": n", func(c *api.Config, n int) { c.Objects[i].Maps[j].N = n }})
	}
	return l
}

// fields are all numbers of a configuration, but for those of labels.
func fields(c api.Config) []field {
	l := []field{
		{"cores", func(c *api.Config, n int) { c.Cores = n }},
		{"frames", func(c *api.Config, n int) { c.Frames = n }},
		{"names", func(c *api.Config, n int) { c.Names = n }},
	}
	for i := range c.Slots {
		l = append(l,
			field{fmt.Sprintf("slot %d: container", i), func(c *api.Config, n int) { c.Slots[i].Cont = uint64(n) }},
			field{fmt.Sprintf("slot %d: ticks", i), func(c *api.Config, n int) { c.Slots[i].Ticks = n }})
	}
	for i := range c.Objects {
		l = append(l, fieldsOfObject(c, i)...)
	}
	return l
}

// A tally counts the configurations that were right, and those of which a thing was the only one that was wrong.
type tally struct {
	right int
	only  map[string]int
}

func (n *tally) check(t *testing.T, what string, c api.Config) {
	t.Helper()
	w := check(t, what, c)
	if len(w) == 0 {
		n.right++
	}
	if len(w) == 1 {
		n.only[w[0]]++
	}
}

// ways are all things that can be wrong alone.
func ways() []string {
	var l []string
	for _, what := range []string{"machine: cores", "machine: frames", "machine: names", "machine: slots", "slot: ticks", "container: pages", "container: names", "segment: pages", "thread: place", "thread: space", "gate: place", "gate: space", "map: page", "map: from", "map: length"} {
		l = append(l, what+" too low", what+" too great")
	}
	l = append(l, "machine: objects too great", "slot: no such container", "object: no such kind", "segment: too much data", "space: too many maps", "map: segment 0", "map: no such segment", "map: over another", "map: not rising")
	for kind := 1; kind <= 6; kind++ {
		name := kindName(kind) + ": "
		for _, what := range []string{"no such parent", "its own parent", "parent behind", "no label", "below its parent"} {
			l = append(l, name+what)
		}
		for parent := 2; parent <= 6; parent++ {
			l = append(l, name+"parent a "+kindName(parent))
		}
		if kind == 3 || kind == 5 {
			l = append(l, name+"no clearance", name+"above its clearance")
		} else {
			l = append(l, name+"owns")
		}
	}
	return l
}

// TestRight holds Right against the reckoning, over valid configurations and ones that differ from them in one thing; it counts that each thing was once the only one that was wrong.
func TestRight(t *testing.T) {
	t.Parallel()
	n := &tally{only: map[string]int{}}
	for _, s := range samples() {
		if w := wrongWith(s.c); len(w) > 0 {
			t.Fatalf("%s: %q", s.name, []string(w))
		}
		n.check(t, s.name, s.c)
	}
	numbersChanged(t, n)
	lengthsChanged(t, n)
	dataChanged(t, n)
	labelsChanged(t, n)
	labelsTogether(t, n)
	mapsChanged(t, n)
	for _, what := range ways() {
		if n.only[what] == 0 {
			t.Errorf("never wrong alone: %s", what)
		}
	}
	if n.right < 1000 {
		t.Errorf("only %d were right", n.right)
	}
}

// numbersChanged sets each number to each one of numbers.
func numbersChanged(t *testing.T, n *tally) {
	for _, s := range samples() {
		all := fields(s.c)
		for i, f := range all {
			// The objects of these are the same again and again, and every 23rd field comes to all that they have.
			if len(s.c.Objects) == 64 && i > 40 && i%23 != 0 {
				continue
			}
			for _, x := range numbers() {
				c := copied(s.c)
				f.set(&c, x)
				n.check(t, fmt.Sprintf("%s, %s %d", s.name, f.name, x), c)
			}
		}
	}
}

// repeated is n times what a list begins with, or nothing.
func repeated[T any](l []T, n int) []T {
	if len(l) == 0 || n == 0 {
		return nil
	}
	return slices.Repeat(l[:1], n)
}

// lengthsChanged sets the numbers of slots, objects and maps.
func lengthsChanged(t *testing.T, n *tally) {
	lengths := []int{0, 1, 2, 3, 7, 8, 9, 10, 15, 16, 17, 18, 32, 63, 64, 65, 66, 128, 255, 256, 257, 264, 272, 320, 1 << 16, 1<<16 + 1}
	for _, length := range lengths {
		for _, s := range samples() {
			c := copied(s.c)
			c.Slots = repeated(c.Slots, length)
			n.check(t, fmt.Sprintf("%s, %d slots", s.name, length), c)
		}
		for kind := 1; kind <= 6; kind++ {
			c := least()
			c.Objects = repeated([]api.Object{plainest(kind)}, length)
			n.check(t, fmt.Sprintf("%d of kind %d", length, kind), c)
			c.Slots[0].Cont = uint64(length)
			n.check(t, fmt.Sprintf("%d of kind %d, a slot of the last one", length, kind), c)
			c.Slots[0].Cont++
			n.check(t, fmt.Sprintf("%d of kind %d, a slot of none", length, kind), c)
		}
		c := alone(api.Object{Kind: 4, Label: lab(2), Maps: spread(min(length, 300), 1)})
		n.check(t, fmt.Sprintf("%d maps", length), c)
		c.Objects[0].Maps = repeated([]api.Map{{Seg: 1, N: 1}}, length)
		n.check(t, fmt.Sprintf("%d maps of a page", length), c)
	}
	for length := range 70 {
		n.check(t, fmt.Sprintf("%d nested", length), nested(length))
	}
	n.check(t, "nothing", api.Config{})
}

// dataChanged sets a segment's pages beside its data.
func dataChanged(t *testing.T, n *tally) {
	for pages := -2; pages <= 18; pages++ {
		for _, length := range []int{0, 1, 63, 64, 65, 64*pages - 1, 64 * pages, 64*pages + 1, 1023, 1024, 1025, 1 << 16, 1<<16 + 1} {
			o := plainest(2)
			o.Pages, o.Data = pages, pattern(max(length, 0))
			n.check(t, fmt.Sprintf("%d pages, %d bytes", pages, length), alone(o))
		}
	}
	for _, pages := range []int{math.MinInt, math.MinInt / 64, math.MinInt/64 + 1, math.MaxInt / 64, math.MaxInt/64 + 1, 1 << 58, 1 << 59, math.MaxInt} {
		for _, length := range []int{0, 1} {
			o := plainest(2)
			o.Pages, o.Data = pages, pattern(length)
			n.check(t, fmt.Sprintf("%d pages, %d bytes", pages, length), alone(o))
		}
	}
	for _, empty := range [][]byte{nil, {}} {
		o := plainest(2)
		o.Data = empty
		n.check(t, "no data", alone(o))
	}
}

// strange are labels of many sorts, valid and not.
func strange() []api.Label {
	l := []api.Label{
		lab(2, 0, 3), lab(2, 1<<30+1, 3), lab(2, 1<<31, 3), lab(2, 1<<32-1, 3), lab(2, 7, 3, 7, 3), lab(2, 7, 3, 7, 4), lab(2, 7, 3, 6, 3),
		lab(2, 7, 0, 7, 4), lab(3, 5, 4, 6, 5), lab(2, 5, 4, 6, -1), lab(2, 5, 4, 6, 256), lab(2, 5, 4, 6, math.MaxInt), lab(math.MaxInt), lab(math.MinInt),
		lab(256), lab(258), lab(1<<32 + 2), widest(2, 4), widest(2, 0), widest(4, 2), widest(2, 2), widest(1, 4), widest(3, 1), lab(2, 1<<30, 4), lab(4, 1<<30, 0),
	}
	for _, level := range []int{0, 3, 4} {
		w := widest(2, level)
		l = append(l, api.Label{Default: 2, Pairs: w.Pairs[:11]}, api.Label{Default: 2, Pairs: append(w.Pairs[:11:11], api.Pair{Cat: 1<<30 - 1, Level: level}, api.Pair{Cat: 1 << 30, Level: level})})
	}
	long := api.Label{Default: 2}
	for i := range 300 {
		long.Pairs = append(long.Pairs, api.Pair{Cat: uint32(i + 1), Level: 4})
		if i == 255 || i == 256 || i == 267 || i == 268 {
			l = append(l, api.Label{Default: 2, Pairs: long.Pairs[: i+1 : i+1]})
		}
	}
	for def := -1; def <= 6; def++ {
		l = append(l, lab(def))
		for level := -1; level <= 6; level++ {
			l = append(l, lab(def, 5, level), lab(def, 9, level), lab(def, 5, 4, 9, level), lab(def, 4, 0, 5, level))
		}
	}
	return l
}

// labelsChanged sets each label and clearance of each object.
func labelsChanged(t *testing.T, n *tally) {
	for _, s := range samples() {
		for i := range s.c.Objects[:min(len(s.c.Objects), 13)] {
			// One of each kind stands for the many.
			if i >= 7 && s.name != "family" || i >= 2 && s.name == "nested" {
				break
			}
			for j, l := range strange() {
				c := copied(s.c)
				c.Objects[i].Label = l
				n.check(t, fmt.Sprintf("%s, %s: label %d", s.name, named(c, i), j), c)
				c = copied(s.c)
				c.Objects[i].Clear = l
				n.check(t, fmt.Sprintf("%s, %s: clearance %d", s.name, named(c, i), j), c)
			}
		}
	}
}

// twoCats are all labels of two categories and all others.
func twoCats() []api.Label {
	var l []api.Label
	for def := 1; def <= 4; def++ {
		for i := range 25 {
			all := []int{i / 5, i % 5}
			one := api.Label{Default: def}
			for j, level := range all {
				if level != def {
					one.Pairs = append(one.Pairs, api.Pair{Cat: []uint32{5, 1 << 30}[j], Level: level})
				}
			}
			l = append(l, one)
		}
	}
	return l
}

// labelsTogether holds each label against each other one: a container's against those of what is in it, a thread's and a gate's against their clearances.
func labelsTogether(t *testing.T, n *tally) {
	for _, a := range twoCats() {
		for _, b := range twoCats() {
			for kind := 1; kind <= 6; kind++ {
				c := alone(api.Object{Kind: 1, Label: a})
				o := plainest(kind)
				o.Parent, o.Label = 1, b
				if kind == 3 || kind == 5 {
					o.Clear = b
				}
				c.Objects = append(c.Objects, o)
				n.check(t, fmt.Sprintf("%v in %v, kind %d", b, a, kind), c)
				if kind == 3 || kind == 5 {
					n.check(t, fmt.Sprintf("%v within %v, kind %d", a, b, kind), alone(api.Object{Kind: kind, Label: a, Clear: b}))
				}
			}
		}
	}
}

// mapsChanged sets the maps of a space: all lists of two out of some, and lists of three.
func mapsChanged(t *testing.T, n *tally) {
	var some []api.Map
	for _, at := range []int{0, 1, 2, 3, 4080, 4094, 4095} {
		for _, long := range []int{1, 2, 16} {
			some = append(some, api.Map{At: at, Seg: 1, N: long})
		}
	}
	some = append(some, api.Map{At: 8, Seg: 2, N: 1}, api.Map{At: 8, Seg: 3, N: 1}, api.Map{At: 8, N: 1}, api.Map{At: 8, Seg: 1},
		api.Map{At: 8, Seg: 1, From: 15, N: 1, Write: true}, api.Map{At: 8, Seg: 1, From: 15, N: 2}, api.Map{At: 8, Seg: 1, N: -1}, api.Map{At: -1, Seg: 1, N: 1})
	for _, a := range some {
		for _, b := range some {
			c := alone(api.Object{Kind: 4, Label: lab(2), Maps: []api.Map{a, b}})
			c.Objects = append(c.Objects, plainest(2))
			n.check(t, "two maps", c)
			c.Objects[0].Maps = []api.Map{{At: 7, Seg: 1, N: 1}, a, b}
			n.check(t, "three maps", c)
			c.Objects[0].Maps = []api.Map{a, b, {At: 7, Seg: 2, N: 1, Write: true}}
			n.check(t, "three maps", c)
		}
	}
}

// An example is a change of family, and whether it is right then, worked out by hand.
type example struct {
	what string
	want bool
	set  func(c *api.Config)
}

func tryExamples(t *testing.T, l []example) {
	t.Helper()
	for _, x := range l {
		c := family()
		x.set(&c)
		if Right(c) != x.want {
			t.Errorf("%s: Right is %v", x.what, !x.want)
		}
	}
}

func TestRightMachinesByHand(t *testing.T) {
	tryExamples(t, []example{
		{"nothing", true, func(c *api.Config) {}},
		{"no core", false, func(c *api.Config) { c.Cores = 0 }},
		{"four cores", true, func(c *api.Config) { c.Cores = 4 }},
		{"five cores", false, func(c *api.Config) { c.Cores = 5 }},
		{"no frame", false, func(c *api.Config) { c.Frames = 0 }},
		{"a frame", true, func(c *api.Config) { c.Frames = 1 }},
		{"4096 frames", true, func(c *api.Config) { c.Frames = 4096 }},
		{"4097 frames", false, func(c *api.Config) { c.Frames = 4097 }},
		{"names below 0", false, func(c *api.Config) { c.Names = -1 }},
		{"no names", true, func(c *api.Config) { c.Names = 0 }},
		{"all names", true, func(c *api.Config) { c.Names = 4194302 }},
		{"a name more", false, func(c *api.Config) { c.Names = 4194303 }},
		{"no slots", false, func(c *api.Config) { c.Slots = nil }},
		{"a slot of 17 ticks", false, func(c *api.Config) { c.Slots[2].Ticks = 17 }},
		{"a slot of no ticks", false, func(c *api.Config) { c.Slots[0].Ticks = 0 }},
		{"a slot of what is no container", true, func(c *api.Config) { c.Slots[0].Cont = 3 }},
		{"a slot of none", false, func(c *api.Config) { c.Slots[0].Cont = 14 }},
		{"no objects", true, func(c *api.Config) { c.Objects, c.Slots[1].Cont, c.Slots[2].Cont = nil, 0, 0 }},
	})
}

func TestRightObjectsByHand(t *testing.T) {
	tryExamples(t, []example{
		{"a container in itself", false, func(c *api.Config) { c.Objects[6].Parent = 7 }},
		{"a container in one behind it", false, func(c *api.Config) { c.Objects[0].Parent = 7 }},
		{"a segment in a segment", false, func(c *api.Config) { c.Objects[7].Parent = 2 }},
		{"a segment in a device", false, func(c *api.Config) { c.Objects[7].Parent = 6 }},
		{"a segment in the root", true, func(c *api.Config) { c.Objects[7].Parent = 0 }},
		{"a segment below its container", false, func(c *api.Config) { c.Objects[7].Label = lab(2) }},
		{"a segment at 3 in a container at 3 for a category", true, func(c *api.Config) { c.Objects[7].Label = lab(4) }},
		{"a segment that owns", false, func(c *api.Config) { c.Objects[1].Label = lab(2, 8, 0) }},
		{"a segment at 0", false, func(c *api.Config) { c.Objects[1].Label = lab(2, 8, 1) }},
		{"a thread that owns what is at 1", true, func(c *api.Config) { c.Objects[2].Label = lab(2, 5, 0) }},
		{"a thread that owns what its container has at 3", false, func(c *api.Config) { c.Objects[8].Label = lab(2, 5, 0) }},
		{"a gate at 0 in the root", false, func(c *api.Config) { c.Objects[4].Label = lab(2, 5, 1) }},
		{"a thread above its clearance", false, func(c *api.Config) { c.Objects[2].Clear = lab(1) }},
		{"a thread that is cleared for what it has", true, func(c *api.Config) { c.Objects[2].Clear = c.Objects[2].Label }},
		{"a thread without a clearance", false, func(c *api.Config) { c.Objects[2].Clear = api.Label{} }},
		{"a segment without one", true, func(c *api.Config) { c.Objects[1].Clear = api.Label{} }},
		{"a place at the end", true, func(c *api.Config) { c.Objects[4].PC = 262143 }},
		{"a place behind the end", false, func(c *api.Config) { c.Objects[4].PC = 262144 }},
		{"a place below 0", false, func(c *api.Config) { c.Objects[2].PC = -1 }},
		{"a thread's space that is none", true, func(c *api.Config) { c.Objects[2].Space = 1 }},
		{"a thread's space that isn't there", false, func(c *api.Config) { c.Objects[2].Space = 14 }},
		{"a gate's space below 0", false, func(c *api.Config) { c.Objects[4].Space = -1 }},
		{"65 bytes in a page", false, func(c *api.Config) { c.Objects[1].Data = make([]byte, 65) }},
		{"64 bytes in a page", true, func(c *api.Config) { c.Objects[1].Data = make([]byte, 64) }},
		{"17 pages", false, func(c *api.Config) { c.Objects[1].Pages = 17 }},
		{"a map of itself", true, func(c *api.Config) { c.Objects[3].Maps[0].Seg = 4 }},
		{"a map of what isn't there", false, func(c *api.Config) { c.Objects[3].Maps[0].Seg = 14 }},
		{"a map of nothing", false, func(c *api.Config) { c.Objects[3].Maps[0].Seg = 0 }},
		{"a map over another", false, func(c *api.Config) { c.Objects[3].Maps[0].N = 3 }},
		{"maps falling", false, func(c *api.Config) { slices.Reverse(c.Objects[3].Maps) }},
		{"kind 0", false, func(c *api.Config) { c.Objects[12].Kind = 0 }},
		{"kind 7", false, func(c *api.Config) { c.Objects[12].Kind = 7 }},
	})
}

// TestUnused: fields that a kind does not use may have any value, and are not in its bytes.
func TestUnused(t *testing.T) {
	for _, s := range samples() {
		want := encoded(bare(s.c))
		for i, o := range s.c.Objects[:min(len(s.c.Objects), 13)] {
			for _, x := range numbers() {
				c := copied(s.c)
				waste(&c.Objects[i], x)
				c.Objects[i] = kept(o, c.Objects[i])
				if !Right(c) {
					t.Fatalf("%s, %s with %d: not right", s.name, named(c, i), x)
				}
				if !slices.Equal(Encode(c), want) {
					t.Fatalf("%s, %s with %d: Encode is changed", s.name, named(c, i), x)
				}
			}
		}
	}
}

// waste puts a number into all fields that some kind does not use, and nonsense into the others.
func waste(o *api.Object, x int) {
	o.Pages, o.Names, o.Space, o.PC = x, x, x, x
	o.Clear = lab(x, 7, x, 3, 0)
	o.Data = make([]byte, 1100)
	o.Maps = []api.Map{{At: x, Seg: uint64(x), From: x, N: x}, {}}
}

// kept is a wasted object with what its kind uses.
func kept(o, wasted api.Object) api.Object {
	switch o.Kind {
	case 1:
		wasted.Pages, wasted.Names = o.Pages, o.Names
	case 2:
		wasted.Pages, wasted.Data = o.Pages, o.Data
	case 3, 5:
		wasted.Clear, wasted.Space, wasted.PC = o.Clear, o.Space, o.PC
	case 4:
		wasted.Maps = o.Maps
	}
	return wasted
}

// TestDrawn holds all calls against the reckoning over drawn configurations, and ones that differ from them in one number.
func TestDrawn(t *testing.T) {
	t.Parallel()
	r := uint64(20)
	for i := range 400 {
		c := drawn(&r, i%65)
		if w := check(t, "drawn", c); len(w) > 0 {
			t.Fatalf("drawn: wrong are %q", []string(w))
		}
		all := fields(c)
		for range 20 {
			d := copied(c)
			f, x := one(&r, all), one(&r, numbers())
			f.set(&d, x)
			check(t, fmt.Sprintf("drawn, %s %d", f.name, x), d)
		}
	}
}
