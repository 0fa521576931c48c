package config

import (
	"bytes"
	"math"
	"os"
	"reflect"
	"runtime/debug"
	"slices"
	"testing"

	"glacis/api"
)

// TestMain: the tests make many small lists and drop them at once, and would collect them most of their time.
func TestMain(m *testing.M) {
	debug.SetGCPercent(800)
	os.Exit(m.Run())
}

// What the chapter says, reckoned without the package and without those below it: what is wrong with a configuration, its bytes, and what bytes tell.

// lab is a label by hand: a default, then categories and their levels, in their order.
func lab(def int, pairs ...int) api.Label {
	l := api.Label{Default: def}
	for i := 0; i < len(pairs); i += 2 {
		l.Pairs = append(l.Pairs, api.Pair{Cat: uint32(pairs[i]), Level: pairs[i+1]})
	}
	return l
}

// isLabel is layer 2's valid label.
func isLabel(l api.Label) bool {
	if l.Default < 1 || l.Default > 4 || len(l.Pairs) > 12 {
		return false
	}
	for i, p := range l.Pairs {
		if p.Cat < 1 || p.Cat > 1<<30 || p.Level < 0 || p.Level > 4 || p.Level == l.Default {
			return false
		}
		if i > 0 && l.Pairs[i-1].Cat >= p.Cat {
			return false
		}
	}
	return true
}

func levelOf(l api.Label, c uint32) int {
	for _, p := range l.Pairs {
		if p.Cat == c {
			return p.Level
		}
	}
	return l.Default
}

// rested is a level of a label at rest.
func rested(level int) int {
	if level == 0 {
		return 2
	}
	return level
}

// as is a level as it stands.
func as(level int) int { return level }

// flows is whether each level of a is at most what of makes of b's.
func flows(a, b api.Label, of func(int) int) bool {
	for _, p := range slices.Concat(a.Pairs, b.Pairs) {
		if levelOf(a, p.Cat) > of(levelOf(b, p.Cat)) {
			return false
		}
	}
	return a.Default <= b.Default
}

func owns(l api.Label) bool {
	return slices.ContainsFunc(l.Pairs, func(p api.Pair) bool { return p.Level == 0 })
}

func kindName(kind int) string {
	if kind < 1 || kind > 6 {
		return "nothing"
	}
	return []string{"container", "segment", "thread", "space", "gate", "device"}[kind-1]
}

// wrongs are the things that are wrong.
type wrongs []string

func (w *wrongs) when(wrong bool, whose, what string) {
	if wrong {
		*w = append(*w, whose+": "+what)
	}
}

func (w *wrongs) bounds(n, low, high int, whose, what string) {
	w.when(n < low, whose, what+" too low")
	w.when(n > high, whose, what+" too great")
}

// wrongWith tells all that is wrong with a configuration; nothing: it is valid. What needs something else to be right is passed over while that is wrong.
func wrongWith(c api.Config) wrongs {
	var w wrongs
	w.bounds(c.Cores, 1, 4, "machine", "cores")
	w.bounds(c.Frames, 1, 4096, "machine", "frames")
	w.bounds(c.Names, 0, 4194302, "machine", "names")
	w.bounds(len(c.Slots), 1, 8, "machine", "slots")
	for _, s := range c.Slots {
		w.bounds(s.Ticks, 1, 16, "slot", "ticks")
		w.when(s.Cont > uint64(len(c.Objects)), "slot", "no such container")
	}
	w.when(len(c.Objects) > 64, "machine", "objects too great")
	for i, o := range c.Objects {
		if o.Kind < 1 || o.Kind > 6 {
			w.when(true, "object", "no such kind")
			continue
		}
		w.place(c.Objects, i)
		w.own(o, len(c.Objects))
	}
	return w
}

// place: where the object with that index is, and its label.
func (w *wrongs) place(l []api.Object, i int) {
	o, kind := l[i], kindName(l[i].Kind)
	home := lab(2)
	switch {
	case o.Parent == 0:
	case o.Parent < 0 || o.Parent > len(l):
		w.when(true, kind, "no such parent")
		return
	case o.Parent == i+1:
		w.when(true, kind, "its own parent")
		return
	case o.Parent > i:
		w.when(true, kind, "parent behind")
		return
	case l[o.Parent-1].Kind != 1:
		w.when(true, kind, "parent a "+kindName(l[o.Parent-1].Kind))
		return
	default:
		home = l[o.Parent-1].Label
	}
	if !isLabel(o.Label) {
		w.when(true, kind, "no label")
		return
	}
	w.when(isLabel(home) && !flows(home, o.Label, rested), kind, "below its parent")
}

// own: what an object of its kind has beside its place.
func (w *wrongs) own(o api.Object, objects int) {
	kind := kindName(o.Kind)
	if o.Kind != 3 && o.Kind != 5 {
		w.when(isLabel(o.Label) && owns(o.Label), kind, "owns")
	}
	switch o.Kind {
	case 1:
		w.bounds(o.Pages, 0, 4096, kind, "pages")
		w.bounds(o.Names, 0, 4194304, kind, "names")
	case 2:
		w.bounds(o.Pages, 0, 16, kind, "pages")
		w.when(o.Pages >= 0 && o.Pages <= 16 && len(o.Data) > 64*o.Pages, kind, "too much data")
	case 4:
		w.maps(o.Maps, objects)
	case 3, 5:
		w.when(!isLabel(o.Clear), kind, "no clearance")
		w.when(isLabel(o.Clear) && isLabel(o.Label) && !flows(o.Label, o.Clear, as), kind, "above its clearance")
		w.bounds(o.PC, 0, 262143, kind, "place")
		w.bounds(o.Space, 0, objects, kind, "space")
	}
}

func (w *wrongs) maps(l []api.Map, objects int) {
	w.when(len(l) > 16, "space", "too many maps")
	var taken [4096]bool
	for i, m := range l {
		w.when(m.Seg == 0, "map", "segment 0")
		w.when(m.Seg > uint64(objects), "map", "no such segment")
		if m.N < 1 || m.N > 16 {
			w.bounds(m.N, 1, 16, "map", "length")
			continue
		}
		w.bounds(m.From, 0, 16-m.N, "map", "from")
		if m.At < 0 || m.At > 4096-m.N {
			w.bounds(m.At, 0, 4096-m.N, "map", "page")
			continue
		}
		over := false
		for page := m.At; page < m.At+m.N; page++ {
			over = over || taken[page]
			taken[page] = true
		}
		w.when(over, "map", "over another")
		w.when(!over && i > 0 && l[i-1].At > m.At, "map", "not rising")
	}
}

// number is a number from 0 on in so many bytes.
func number(n, x int) []byte {
	b := make([]byte, n)
	for i := n - 1; i >= 0; i-- {
		b[i] = byte(x % 256)
		x /= 256
	}
	return b
}

func labelBytes(l api.Label) []byte {
	b := slices.Concat(number(1, l.Default), number(1, len(l.Pairs)))
	for _, p := range l.Pairs {
		b = slices.Concat(b, number(4, int(p.Cat)), number(1, p.Level))
	}
	return b
}

// encoded is the chapter's encoding of a configuration without negative numbers.
func encoded(c api.Config) []byte {
	b := slices.Concat(number(1, c.Cores), number(2, c.Frames), number(4, c.Names), number(1, len(c.Slots)))
	for _, s := range c.Slots {
		b = slices.Concat(b, number(1, int(s.Cont)), number(1, s.Ticks))
	}
	b = append(b, number(1, len(c.Objects))...)
	for _, o := range c.Objects {
		b = append(b, objectBytes(o)...)
	}
	return b
}

func objectBytes(o api.Object) []byte {
	b := slices.Concat(number(1, o.Kind), number(1, o.Parent), labelBytes(o.Label))
	switch o.Kind {
	case 1:
		return slices.Concat(b, number(2, o.Pages), number(4, o.Names))
	case 2:
		return slices.Concat(b, number(1, o.Pages), number(2, len(o.Data)), o.Data)
	case 3, 5:
		return slices.Concat(b, labelBytes(o.Clear), number(1, o.Space), number(4, o.PC))
	case 4:
		b = append(b, number(1, len(o.Maps))...)
		for _, m := range o.Maps {
			write := 0
			if m.Write {
				write = 1
			}
			b = slices.Concat(b, number(2, m.At), number(2, int(m.Seg)), number(2, m.From), number(2, m.N), number(2, write))
		}
	}
	return b
}

// A cursor is a place in bytes; it is lost once it has met something that no encoding has.
type cursor struct {
	b    []byte
	at   int
	lost bool
}

func (p *cursor) number(n int) int {
	if p.at+n > len(p.b) {
		p.lost = true
	}
	if p.lost {
		return 0
	}
	x := 0
	for range n {
		x = 256*x + int(p.b[p.at])
		p.at++
	}
	return x
}

func (p *cursor) label() api.Label {
	l := api.Label{Default: p.number(1)}
	for n := p.number(1); n > 0 && !p.lost; n-- {
		l.Pairs = append(l.Pairs, api.Pair{Cat: uint32(p.number(4)), Level: p.number(1)})
	}
	return l
}

func (p *cursor) object() api.Object {
	o := api.Object{Kind: p.number(1), Parent: p.number(1), Label: p.label()}
	switch o.Kind {
	case 1:
		o.Pages, o.Names = p.number(2), p.number(4)
	case 2:
		o.Pages = p.number(1)
		for n := p.number(2); n > 0 && !p.lost; n-- {
			o.Data = append(o.Data, byte(p.number(1)))
		}
	case 3, 5:
		o.Clear, o.Space, o.PC = p.label(), p.number(1), p.number(4)
	case 4:
		for n := p.number(1); n > 0 && !p.lost; n-- {
			m := api.Map{At: p.number(2), Seg: uint64(p.number(2)), From: p.number(2), N: p.number(2)}
			write := p.number(2)
			m.Write, p.lost = write == 1, p.lost || write > 1
			o.Maps = append(o.Maps, m)
		}
	}
	return o
}

// told is the valid configuration whose encoding bytes are; false: they are none's.
func told(b []byte) (api.Config, bool) {
	p := &cursor{b: b}
	c := api.Config{Cores: p.number(1), Frames: p.number(2), Names: p.number(4)}
	for n := p.number(1); n > 0 && !p.lost; n-- {
		c.Slots = append(c.Slots, api.Slot{Cont: uint64(p.number(1)), Ticks: p.number(1)})
	}
	for n := p.number(1); n > 0 && !p.lost; n-- {
		c.Objects = append(c.Objects, p.object())
	}
	if p.lost || p.at < len(b) || len(wrongWith(c)) > 0 {
		return api.Config{}, false
	}
	return c, true
}

// reach is how far each number of a configuration goes by its number of bytes.
func reach(n int) int { return 1<<(8*n) - 1 }

// writable is whether all numbers of a configuration have room in its encoding.
func writable(c api.Config) bool {
	ok := true
	fits := func(bytes int, numbers ...int) {
		for _, x := range numbers {
			ok = ok && x >= 0 && x <= reach(bytes)
		}
	}
	whole := func(l api.Label) {
		fits(1, l.Default, len(l.Pairs))
		for _, p := range l.Pairs {
			fits(1, p.Level)
		}
	}
	fits(1, c.Cores, len(c.Slots), len(c.Objects))
	fits(2, c.Frames)
	fits(4, c.Names)
	for _, s := range c.Slots {
		fits(1, int(s.Cont), s.Ticks)
	}
	for _, o := range c.Objects {
		fits(1, o.Kind, o.Parent)
		whole(o.Label)
		switch o.Kind {
		case 1:
			fits(2, o.Pages)
			fits(4, o.Names)
		case 2:
			fits(1, o.Pages)
			fits(2, len(o.Data))
		case 3, 5:
			whole(o.Clear)
			fits(1, o.Space)
			fits(4, o.PC)
		case 4:
			fits(1, len(o.Maps))
			for _, m := range o.Maps {
				fits(2, m.At, int(m.Seg), m.From, m.N)
			}
		}
	}
	return ok
}

// copied has no memory in common with what it is of; its empty lists are nil.
func copied(c api.Config) api.Config {
	c.Slots = append([]api.Slot(nil), c.Slots...)
	c.Objects = append([]api.Object(nil), c.Objects...)
	for i := range c.Objects {
		o := &c.Objects[i]
		o.Label.Pairs = append([]api.Pair(nil), o.Label.Pairs...)
		o.Clear.Pairs = append([]api.Pair(nil), o.Clear.Pairs...)
		o.Data = append([]byte(nil), o.Data...)
		o.Maps = append([]api.Map(nil), o.Maps...)
	}
	return c
}

// same is whether two configurations have the same in them, where an empty list may be nil.
func same(a, b api.Config) bool { return reflect.DeepEqual(copied(a), copied(b)) }

// bare is a configuration with nothing in the fields that the kinds of its objects do not use.
func bare(c api.Config) api.Config {
	c = copied(c)
	for i, o := range c.Objects {
		p := api.Object{Kind: o.Kind, Parent: o.Parent, Label: o.Label}
		switch o.Kind {
		case 1:
			p.Pages, p.Names = o.Pages, o.Names
		case 2:
			p.Pages, p.Data = o.Pages, o.Data
		case 3, 5:
			p.Clear, p.Space, p.PC = o.Clear, o.Space, o.PC
		case 4:
			p.Maps = o.Maps
		}
		c.Objects[i] = p
	}
	return c
}

// checkDecode holds Decode of any bytes against what they tell; it answers whether they tell anything.
func checkDecode(t *testing.T, what string, b []byte) bool {
	t.Helper()
	before := slices.Clone(b)
	c, e := Decode(b)
	if !bytes.Equal(b, before) {
		t.Fatalf("%s: Decode changed its bytes", what)
	}
	want, ok := told(b)
	if !ok {
		if e != api.ErrForm || !reflect.DeepEqual(copied(c), api.Config{}) {
			t.Fatalf("%s: Decode(%v) is %v and error %d, not ErrForm", what, b, c, int(e))
		}
		return false
	}
	if e != api.OK || !same(c, want) {
		t.Fatalf("%s: Decode(%v) is %v and error %d, not %v", what, b, c, int(e), want)
	}
	if !Right(c) || !bytes.Equal(Encode(c), b) {
		t.Fatalf("%s: Decode(%v) is %v, which is not of these bytes", what, b, c)
	}
	return true
}

// check holds every call of a configuration against the reckoning, and its bytes if it may have some; it answers what is wrong with it.
func check(t *testing.T, what string, c api.Config) wrongs {
	t.Helper()
	w := wrongWith(c)
	if got := Right(c); got != (len(w) == 0) {
		t.Fatalf("%s: Right is %v, but wrong are %q: %v", what, got, []string(w), c)
	}
	if len(w) > 0 {
		if writable(c) {
			checkDecode(t, what, encoded(c))
		}
		return w
	}
	b := Encode(c)
	if !bytes.Equal(b, encoded(c)) {
		t.Fatalf("%s: Encode is %v, not %v", what, b, encoded(c))
	}
	if d, e := Decode(b); e != api.OK || !same(d, bare(c)) {
		t.Fatalf("%s: Decode of Encode is %v and error %d, not %v", what, d, int(e), bare(c))
	}
	return nil
}

// draw is a number below n, by a fixed rule.
func draw(r *uint64, n int) int {
	*r = *r*6364136223846793005 + 1442695040888963407
	return int(*r >> 33 % uint64(n))
}

// one is one of a list, by the same rule.
func one[T any](r *uint64, l []T) T { return l[draw(r, len(l))] }

// numbers are those about all bounds of the chapter, and those that look right in fewer bits.
func numbers() []int {
	l := []int{
		math.MinInt, math.MinInt + 1, math.MinInt32, -1<<32 + 1, -1 << 32, -1 << 31, -65535, -256, -255, -65, -64, -17, -16, -4,
		3, 5, 6, 7, 8, 9, 1 << 31, 1 << 32, 1<<32 + 3, 1<<33 + 1, math.MaxInt - 1, math.MaxInt,
	}
	for _, edge := range []int{0, 1, 4, 13, 16, 64, 256, 1024, 4096, 1 << 16, 1 << 18, 1<<22 - 2, 1 << 22, 1<<24 + 1, 1<<31 - 1, 1<<32 - 1} {
		l = append(l, edge-1, edge, edge+1)
	}
	slices.Sort(l)
	return slices.Compact(l)
}
