package config

import (
	"bytes"
	"reflect"
	"slices"
	"testing"

	"glacis/api"
)

// roomy is a copy of a list with room behind its end, where three of another's stand.
func roomy[T any](l []T, behind T) []T {
	return append(slices.Clone(l), behind, behind, behind)[:len(l)]
}

// whole is a list up to the end of its room.
func whole[T any](l []T) []T { return l[:cap(l)] }

// roomyConfig is a copy of a configuration of which each list has room behind its end.
func roomyConfig(c api.Config) api.Config {
	c = copied(c)
	pair, other := api.Pair{Cat: 77, Level: 3}, api.Map{At: 99, Seg: 9, N: 9}
	for i := range c.Objects {
		o := &c.Objects[i]
		o.Label.Pairs, o.Clear.Pairs = roomy(o.Label.Pairs, pair), roomy(o.Clear.Pairs, pair)
		o.Data, o.Maps = roomy(o.Data, 0xee), roomy(o.Maps, other)
	}
	c.Slots = roomy(c.Slots, api.Slot{Cont: 88, Ticks: 8})
	c.Objects = roomy(c.Objects, api.Object{Kind: 66})
	return c
}

// wholeConfig is a copy of a configuration with what stands in the room behind its lists.
func wholeConfig(c api.Config) api.Config {
	c.Slots, c.Objects = whole(c.Slots), slices.Clone(whole(c.Objects))
	for i := range c.Objects {
		o := &c.Objects[i]
		o.Label.Pairs, o.Clear.Pairs = whole(o.Label.Pairs), whole(o.Clear.Pairs)
		o.Data, o.Maps = whole(o.Data), whole(o.Maps)
	}
	return copied(c)
}

// lists are all lists of a configuration, to the ends of their room.
type lists struct {
	slots   []api.Slot
	objects []api.Object
	pairs   [][]api.Pair
	data    [][]byte
	maps    [][]api.Map
}

func listsOf(c api.Config) lists {
	l := lists{slots: whole(c.Slots), objects: whole(c.Objects)}
	for _, o := range c.Objects {
		l.pairs = append(l.pairs, whole(o.Label.Pairs), whole(o.Clear.Pairs))
		l.data = append(l.data, whole(o.Data))
		l.maps = append(l.maps, whole(o.Maps))
	}
	return l
}

// mark writes a number over all of these, another one for each list.
func (l lists) mark(from int) {
	for i := range l.slots {
		l.slots[i] = api.Slot{Ticks: from}
	}
	for i := range l.objects {
		l.objects[i] = api.Object{PC: from}
	}
	for n := range l.maps {
		for i := range l.maps[n] {
			l.maps[n][i] = api.Map{At: from + n}
		}
		for i := range l.data[n] {
			l.data[n][i] = byte(from + n)
		}
	}
	for n := range l.pairs {
		for i := range l.pairs[n] {
			l.pairs[n][i] = api.Pair{Level: from + n}
		}
	}
}

// marked is whether each list has its number still.
func (l lists) marked(from int) bool {
	ok := true
	for _, s := range l.slots {
		ok = ok && s.Ticks == from
	}
	for _, o := range l.objects {
		ok = ok && o.PC == from
	}
	for n := range l.maps {
		for _, m := range l.maps[n] {
			ok = ok && m.At == from+n
		}
		for _, x := range l.data[n] {
			ok = ok && x == byte(from+n)
		}
	}
	for n := range l.pairs {
		for _, p := range l.pairs[n] {
			ok = ok && p.Level == from+n
		}
	}
	return ok
}

// TestArguments: no call changes what is passed, or what stands behind it.
func TestArguments(t *testing.T) {
	for _, s := range samples() {
		c := roomyConfig(s.c)
		before := wholeConfig(c)
		for range 2 {
			if !Right(c) || !bytes.Equal(Encode(c), encoded(s.c)) {
				t.Fatalf("%s: another answer with room behind its lists", s.name)
			}
		}
		if !reflect.DeepEqual(wholeConfig(c), before) {
			t.Fatalf("%s: what was passed is changed", s.name)
		}
		b := roomy(encoded(s.c), 0xee)
		room := slices.Clone(whole(b))
		for range 2 {
			if d, e := Decode(b); e != api.OK || !same(d, bare(s.c)) {
				t.Fatalf("%s: another answer with room behind its bytes", s.name)
			}
			Script(b)
		}
		if !bytes.Equal(whole(b), room) {
			t.Fatalf("%s: bytes that were passed are changed", s.name)
		}
	}
	l := roomy([]api.Act{{Kind: api.Input, N: 4, Data: roomy(pattern(9), 0xee)}, {N: 4}, {Kind: api.Input, Data: roomy(nil, byte(0xee))}}, api.Act{N: 9})
	for range 2 {
		if got := Script(Bytes(l)); !sameActs(got, l) {
			t.Fatalf("restored as %v", got)
		}
	}
	if got := whole(l)[len(l):][:3]; !sameActs(got, slices.Repeat([]api.Act{{N: 9}}, 3)) {
		t.Fatalf("what stands behind the acts that were passed is changed: %v", got)
	}
	if !bytes.Equal(whole(l[0].Data)[:12], append(pattern(9), 0xee, 0xee, 0xee)) || !bytes.Equal(whole(l[2].Data)[:3], []byte{0xee, 0xee, 0xee}) {
		t.Fatalf("packets that were passed are changed: %v", l)
	}
}

// TestBytesApart: bytes that Encode returned share nothing with the configuration, or with others that it returned.
func TestBytesApart(t *testing.T) {
	for _, s := range samples() {
		c := roomyConfig(s.c)
		before, want := wholeConfig(c), encoded(s.c)
		a, b := Encode(c), Encode(c)
		for i := range whole(a) {
			whole(a)[i] ^= 0xff
		}
		if !bytes.Equal(b, want) || !reflect.DeepEqual(wholeConfig(c), before) || !bytes.Equal(Encode(c), want) {
			t.Fatalf("%s: bytes that were returned are shared", s.name)
		}
		for i := range c.Objects {
			clear(c.Objects[i].Data)
			clear(c.Objects[i].Maps)
			clear(c.Objects[i].Label.Pairs)
		}
		if !bytes.Equal(b, want) {
			t.Fatalf("%s: bytes that were returned are the configuration's", s.name)
		}
	}
}

// TestConfigApart: the lists of a configuration that Decode returned share nothing with the bytes, with each other, or with others that it returned.
func TestConfigApart(t *testing.T) {
	for _, s := range samples() {
		b := roomy(encoded(s.c), 0xee)
		room := slices.Clone(whole(b))
		c, _ := Decode(b)
		d, _ := Decode(b)
		first, second := listsOf(c), listsOf(d)
		for i := range first.objects {
			// What the objects had is in the other lists by now.
			first.objects[i], second.objects[i] = api.Object{}, api.Object{}
		}
		first.mark(1)
		second.mark(100)
		if !first.marked(1) || !second.marked(100) {
			t.Fatalf("%s: lists that were returned are shared", s.name)
		}
		if !bytes.Equal(whole(b), room) {
			t.Fatalf("%s: lists that were returned are the bytes", s.name)
		}
		if again, e := Decode(b); e != api.OK || !same(again, bare(s.c)) {
			t.Fatalf("%s: what was returned before is changed, and Decode with it", s.name)
		}
		kept, _ := Decode(b)
		clear(whole(b))
		if !same(kept, bare(s.c)) {
			t.Fatalf("%s: the bytes are changed, and what was returned with them", s.name)
		}
	}
}

// TestAppended: what is appended to one list of a configuration that Decode returned is in no other one.
func TestAppended(t *testing.T) {
	for _, s := range samples() {
		b := encoded(s.c)
		c, _ := Decode(b)
		want := copied(c)
		for i := range c.Objects {
			o := c.Objects[i]
			_ = append(o.Data, 1, 2, 3, 4, 5, 6, 7, 8)
			_ = append(o.Maps, api.Map{At: 1})
			_ = append(o.Label.Pairs, api.Pair{Cat: 1})
			_ = append(o.Clear.Pairs, api.Pair{Cat: 1})
		}
		_ = append(c.Slots, api.Slot{Cont: 1})
		_ = append(c.Objects, api.Object{Kind: 1})
		if !same(c, want) || !bytes.Equal(b, encoded(s.c)) {
			t.Fatalf("%s: a list goes on into another one", s.name)
		}
	}
}

// TestScriptApart: packets that Script returned share nothing with the bytes, with each other, or with others; nor do bytes that Bytes returned.
func TestScriptApart(t *testing.T) {
	packets := []byte{3, 32, 3, 5, 1, 2, 3, 4, 5, 7, 0, 4, 3, 1, 9, 3, 33, 11, 200, 8}
	for _, b := range [][]byte{packets, packets[2:], bytes.Repeat(packets, 50), pattern(5000), {3, 1, 7}, {3}, {3, 0}, {4, 4, 4}} {
		b := roomy(b, 0xee)
		room, want := slices.Clone(whole(b)), read(b)
		first, second := Script(b), Script(b)
		for n, l := range [][]api.Act{first, second} {
			for i := range l {
				for j := range whole(l[i].Data) {
					whole(l[i].Data)[j] = byte(i*2 + n)
				}
			}
		}
		for n, l := range [][]api.Act{first, second} {
			for i := range l {
				for _, x := range whole(l[i].Data) {
					if x != byte(i*2+n) {
						t.Fatalf("%v: packets are shared", b)
					}
				}
			}
		}
		clear(whole(first))
		if !bytes.Equal(whole(b), room) || !sameActs(Script(b), want) || len(second) != len(want) || second[0].Kind != want[0].Kind || second[0].N != want[0].N {
			t.Fatalf("%v: what was returned is shared", b)
		}
		kept := Script(b)
		clear(whole(b))
		if !sameActs(kept, want) {
			t.Fatalf("%v: the bytes are changed, and the script with them", room)
		}
		bytesApart(t, want)
	}
}

// bytesApart: bytes that Bytes returned share nothing with the acts, or with others that it returned.
func bytesApart(t *testing.T, l []api.Act) {
	t.Helper()
	before := Script(Bytes(l))
	a, b := Bytes(l), Bytes(l)
	want := slices.Clone(b)
	for i := range whole(a) {
		whole(a)[i] ^= 0xff
	}
	if !bytes.Equal(b, want) || !sameActs(l, before) || !bytes.Equal(Bytes(l), want) {
		t.Fatalf("%v: bytes that were returned are shared", l)
	}
	for i := range l {
		clear(l[i].Data)
	}
	if !bytes.Equal(b, want) {
		t.Fatalf("%v: bytes that were returned are the acts'", l)
	}
}

// TestSameAnswers: what a call answers hangs on its arguments alone.
func TestSameAnswers(t *testing.T) {
	all := samples()
	for _, a := range all {
		for _, b := range all {
			first, form := Encode(a.c), encoded(a.c)
			Encode(b.c)
			Decode(encoded(b.c))
			Decode([]byte{1, 2})
			Script(form)
			Bytes(read(form[:9]))
			Right(api.Config{})
			c, e := Decode(form)
			if !bytes.Equal(first, Encode(a.c)) || e != api.OK || !same(c, bare(a.c)) || !Right(a.c) {
				t.Fatalf("%s behind %s: another answer", a.name, b.name)
			}
		}
	}
}
