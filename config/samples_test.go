package config

import (
	"fmt"
	"slices"

	"glacis/api"
)

// Configurations that are valid: the tests begin with them.

// widest is a label with as many pairs as one may have, up to the greatest category, all at one level.
func widest(def, level int) api.Label {
	l := api.Label{Default: def}
	for i := range 11 {
		l.Pairs = append(l.Pairs, api.Pair{Cat: uint32(1) << (2 * i), Level: level})
	}
	return api.Label{Default: def, Pairs: append(l.Pairs, api.Pair{Cat: 1 << 30, Level: level})}
}

// pattern is n bytes that are not all the same.
func pattern(n int) []byte {
	var b []byte
	for i := range n {
		b = append(b, byte(i*37+i/256+1))
	}
	return b
}

// spread are n maps that touch each other, with all numbers of pages.
func spread(n, seg int) []api.Map {
	var l []api.Map
	at := 300
	for i := range n {
		l = append(l, api.Map{At: at, Seg: uint64(1 + i%seg), From: 15 - i%16, N: 1 + i%16, Write: i%3 == 1})
		at += 1 + i%16
	}
	return l
}

// least has nothing that may be missing.
func least() api.Config {
	return api.Config{Cores: 1, Frames: 1, Slots: []api.Slot{{Ticks: 1}}}
}

// family has an object of each kind in the root, a container in a container, and one of each kind in that.
func family() api.Config {
	one, home := lab(2), lab(2, 5, 4)
	return api.Config{Cores: 3, Frames: 0x0301, Names: 0x010203, Slots: []api.Slot{{Cont: 0, Ticks: 2}, {Cont: 7, Ticks: 16}, {Cont: 13, Ticks: 1}},
		Objects: []api.Object{
			{Kind: 1, Label: one, Pages: 0x0102, Names: 0x010203},
			{Kind: 2, Label: one, Pages: 1, Data: []byte{7, 0, 255}},
			{Kind: 3, Label: lab(2, 5, 0, 9, 0), Clear: lab(4), Space: 4, PC: 0x010203},
			{Kind: 4, Label: one, Maps: []api.Map{{At: 0x0102, Seg: 2, From: 1, N: 2, Write: true}, {At: 0x0104, Seg: 13, N: 16}}},
			{Kind: 5, Label: lab(3, 5, 0, 6, 2), Clear: lab(3, 6, 4), Space: 13, PC: 128},
			{Kind: 6, Label: lab(2, 9, 3)},
			{Kind: 1, Parent: 1, Label: home, Pages: 40, Names: 4},
			{Kind: 2, Parent: 7, Label: home, Pages: 16, Data: pattern(0x0102)},
			{Kind: 3, Parent: 7, Label: lab(3, 5, 4), Clear: lab(3, 5, 4, 6, 4)},
			{Kind: 4, Parent: 7, Label: home},
			{Kind: 5, Parent: 7, Label: lab(2, 4, 0, 5, 4), Clear: lab(2, 5, 4), Space: 4},
			{Kind: 6, Parent: 7, Label: home},
			{Kind: 1, Parent: 7, Label: lab(4)},
		}}
}

// greatest has the greatest numbers that there may be, as many objects of all kinds as there may be, and as much in them.
func greatest() api.Config {
	c := api.Config{Cores: 4, Frames: 4096, Names: 1<<22 - 2}
	for range 8 {
		c.Slots = append(c.Slots, api.Slot{Cont: 64, Ticks: 16})
	}
	home, owner := widest(3, 4), widest(3, 4)
	for i := range owner.Pairs[:6] {
		home.Pairs[i].Level, owner.Pairs[i].Level = 2, 0
	}
	c.Objects = append(c.Objects, api.Object{Kind: 1, Label: home, Pages: 4096, Names: 1 << 22})
	for i := range 63 {
		o := api.Object{Kind: 1 + i%6, Label: home, Pages: 4096, Names: 1 << 22}
		// What comes behind a container is in it, and so is the next container.
		o.Parent = max(1, (i+5)/6*6-4)
		switch o.Kind {
		case 2:
			o.Pages, o.Data = 16, pattern(1024)
		case 3, 5:
			o.Label, o.Clear, o.Space, o.PC = owner, widest(3, 4), 64, 1<<18-1
		case 4:
			o.Maps = spread(15, 64)
			o.Maps = append(o.Maps, api.Map{At: 4080, Seg: 64, N: 16, Write: true})
		}
		c.Objects = append(c.Objects, o)
	}
	return c
}

// nested are n containers, each in the one ahead of it.
func nested(n int) api.Config {
	c := least()
	for i := range n {
		c.Objects = append(c.Objects, api.Object{Kind: 1, Parent: i, Label: lab(2)})
	}
	return c
}

// alone has one object, in the root.
func alone(o api.Object) api.Config {
	c := least()
	c.Objects = []api.Object{o}
	return c
}

// plainest is an object of a kind, of which only its labels are given.
func plainest(kind int) api.Object {
	o := api.Object{Kind: kind, Label: lab(2)}
	if kind == 3 || kind == 5 {
		o.Clear = lab(4)
	}
	return o
}

// A sample is a configuration and how it is called.
type sample struct {
	name string
	c    api.Config
}

// samples are valid configurations; the last one is the greatest.
func samples() []sample {
	all := []sample{{"least", least()}, {"family", family()}, {"nested", nested(64)}}
	for kind := 1; kind <= 6; kind++ {
		all = append(all, sample{"only a " + kindName(kind), alone(plainest(kind))})
	}
	slots := least()
	slots.Slots = slices.Repeat(slots.Slots, 8)
	return append(all, sample{"eight slots", slots}, sample{"greatest", greatest()})
}

// cats are categories of the labels that are drawn.
var cats = []uint32{1, 2, 300, 70000, 1<<24 + 5, 1 << 30}

// build is the label that has these levels in cats, and the last one in all others.
func build(at []int) api.Label {
	l := api.Label{Default: at[len(cats)]}
	for i, level := range at[:len(cats)] {
		if level != l.Default {
			l.Pairs = append(l.Pairs, api.Pair{Cat: cats[i], Level: level})
		}
	}
	return l
}

// above are levels at or above others.
func above(r *uint64, at []int) []int {
	var l []int
	for _, level := range at {
		if draw(r, 3) == 0 {
			level += draw(r, 5-level)
		}
		l = append(l, level)
	}
	return l
}

// drawn is a valid configuration with n objects.
func drawn(r *uint64, n int) api.Config {
	c := api.Config{Cores: 1 + draw(r, 4), Frames: 1 + draw(r, 4096), Names: draw(r, 1<<22-1)}
	for range 1 + draw(r, 8) {
		c.Slots = append(c.Slots, api.Slot{Cont: uint64(draw(r, n+1)), Ticks: 1 + draw(r, 16)})
	}
	root := slices.Repeat([]int{2}, len(cats)+1)
	levels := [][]int{root}
	homes := []int{0}
	for i := range n {
		o := api.Object{Kind: 1 + draw(r, 6), Parent: one(r, homes)}
		at := above(r, levels[o.Parent])
		if o.Kind == 1 {
			homes = append(homes, i+1)
		}
		levels = append(levels, at)
		fill(r, &o, at, n)
		c.Objects = append(c.Objects, o)
	}
	return c
}

// fill gives an object, one of n, what its kind has.
func fill(r *uint64, o *api.Object, at []int, n int) {
	o.Label = build(at)
	switch o.Kind {
	case 1:
		o.Pages, o.Names = draw(r, 4097), draw(r, 1<<22+1)
	case 2:
		o.Pages = draw(r, 17)
		o.Data = pattern(draw(r, 64*o.Pages+1))
	case 3, 5:
		for i, level := range at[:len(cats)] {
			if level <= 2 && draw(r, 3) == 0 {
				at[i] = 0
			}
		}
		o.Label, o.Clear = build(at), build(above(r, at))
		o.Space, o.PC = draw(r, n+1), draw(r, 1<<18)
	case 4:
		next := draw(r, 4000)
		for range draw(r, 17) {
			m := api.Map{At: next + draw(r, 2)*draw(r, 40), Seg: uint64(1 + draw(r, n)), N: 1 + draw(r, 16), Write: draw(r, 2) == 0}
			m.From = draw(r, 17-m.N)
			next = m.At + m.N
			if next > 4096 {
				break
			}
			o.Maps = append(o.Maps, m)
		}
	}
}

// named is what a test tells of an object.
func named(c api.Config, i int) string {
	return fmt.Sprintf("object %d, kind %d", i+1, c.Objects[i].Kind)
}
