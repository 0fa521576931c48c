package config

import (
	"bytes"
	"fmt"
	"slices"
	"testing"

	"glacis/api"
)

// TestEncodeByHand holds Encode against bytes that are written out by the chapter's list, for objects of each kind.
func TestEncodeByHand(t *testing.T) {
	c := api.Config{Cores: 3, Frames: 0x0301, Names: 0x010203, Slots: []api.Slot{{Cont: 2, Ticks: 16}, {Ticks: 1}},
		Objects: []api.Object{
			{Kind: 1, Label: lab(2), Pages: 0x0102, Names: 0x030405},
			{Kind: 2, Parent: 1, Label: lab(2, 0x01020304, 4), Pages: 5, Data: pattern(0x0102)},
			{Kind: 3, Parent: 1, Label: lab(2, 9, 0), Clear: lab(3, 6, 4), Space: 4, PC: 0x020304},
			{Kind: 4, Label: lab(3), Maps: []api.Map{{At: 0x0102, Seg: 6, From: 5, N: 4, Write: true}, {At: 0x0f00, Seg: 1, N: 16}}},
			{Kind: 5, Label: lab(2, 8, 0, 9, 4), Clear: lab(4), PC: 0x03ffff},
			{Kind: 6, Parent: 1, Label: lab(4, 0x3fffffff, 2)},
		}}
	parts := map[string][]byte{
		"machine":   {3, 3, 1, 0, 1, 2, 3},
		"slots":     {2, 2, 16, 0, 1},
		"objects":   {6},
		"container": {1, 0, 2, 0, 1, 2, 0, 3, 4, 5},
		"segment":   append([]byte{2, 1, 2, 1, 1, 2, 3, 4, 4, 5, 1, 2}, pattern(0x0102)...),
		"thread":    {3, 1, 2, 1, 0, 0, 0, 9, 0, 3, 1, 0, 0, 0, 6, 4, 4, 0, 2, 3, 4},
		"space":     {4, 0, 3, 0, 2, 1, 2, 0, 6, 0, 5, 0, 4, 0, 1, 15, 0, 0, 1, 0, 0, 0, 16, 0, 0},
		"gate":      {5, 0, 2, 2, 0, 0, 0, 8, 0, 0, 0, 0, 9, 4, 4, 0, 0, 0, 3, 255, 255},
		"device":    {6, 1, 4, 1, 63, 255, 255, 255, 2},
	}
	var want []byte
	for _, part := range []string{"machine", "slots", "objects", "container", "segment", "thread", "space", "gate", "device"} {
		want = append(want, parts[part]...)
	}
	if got := Encode(c); !bytes.Equal(got, want) {
		t.Fatalf("Encode is %v, not %v", got, want)
	}
	if d, e := Decode(want); e != api.OK || !same(d, c) {
		t.Fatalf("Decode is %v and error %d, not %v", d, int(e), c)
	}
	if got := Encode(least()); !bytes.Equal(got, []byte{1, 0, 1, 0, 0, 0, 0, 1, 0, 1, 0}) {
		t.Fatalf("Encode of the least is %v", got)
	}
}

// head are the bytes of least up to the number of its objects, and device those of a device.
func head() []byte   { return []byte{1, 0, 1, 0, 0, 0, 0, 1, 0, 1} }
func device() []byte { return []byte{6, 0, 2, 0} }

// Some are bytes, and whether they tell something, worked out by hand.
type some struct {
	what string
	want bool
	b    []byte
}

func trySome(t *testing.T, l []some) {
	t.Helper()
	for _, x := range l {
		if got := checkDecode(t, x.what, x.b); got != x.want {
			t.Errorf("%s: that %v tells something is %v", x.what, x.b, got)
		}
	}
}

func TestDecodeMachinesByHand(t *testing.T) {
	head, device := head(), device()
	trySome(t, []some{
		{"nothing", false, nil},
		{"no number of objects", false, head},
		{"no objects", true, slices.Concat(head, []byte{0})},
		{"a device", true, slices.Concat(head, []byte{1}, device)},
		{"two devices for one", false, slices.Concat(head, []byte{1}, device, device)},
		{"one device for two", false, slices.Concat(head, []byte{2}, device)},
		{"two devices", true, slices.Concat(head, []byte{2}, device, device)},
		{"64 devices", true, slices.Concat(head, []byte{64}, bytes.Repeat(device, 64))},
		{"65 devices", false, slices.Concat(head, []byte{65}, bytes.Repeat(device, 65))},
		{"255 devices", false, slices.Concat(head, []byte{255}, bytes.Repeat(device, 255))},
		{"no slots", false, []byte{1, 0, 1, 0, 0, 0, 0, 0, 0}},
		{"two slots", true, []byte{1, 0, 1, 0, 0, 0, 0, 2, 0, 1, 0, 16, 0}},
		{"one slot for two", false, []byte{1, 0, 1, 0, 0, 0, 0, 2, 0, 1, 0}},
		{"two slots for one", false, []byte{1, 0, 1, 0, 0, 0, 0, 1, 0, 1, 0, 1, 0}},
		{"eight slots", true, slices.Concat([]byte{1, 0, 1, 0, 0, 0, 0, 8}, bytes.Repeat([]byte{0, 1}, 8), []byte{0})},
		{"nine slots", false, slices.Concat([]byte{1, 0, 1, 0, 0, 0, 0, 9}, bytes.Repeat([]byte{0, 1}, 9), []byte{0})},
		{"four cores", true, []byte{4, 0, 1, 0, 0, 0, 0, 1, 0, 1, 0}},
		{"five cores", false, []byte{5, 0, 1, 0, 0, 0, 0, 1, 0, 1, 0}},
		{"all frames", true, []byte{1, 16, 0, 0, 0, 0, 0, 1, 0, 1, 0}},
		{"a frame more", false, []byte{1, 16, 1, 0, 0, 0, 0, 1, 0, 1, 0}},
		{"all names", true, []byte{1, 0, 1, 0, 63, 255, 254, 1, 0, 1, 0}},
		{"a name more", false, []byte{1, 0, 1, 0, 63, 255, 255, 1, 0, 1, 0}},
		{"names that are below 0 in 32 bits", false, []byte{1, 0, 1, 255, 255, 255, 255, 1, 0, 1, 0}},
	})
}

func TestDecodeObjectsByHand(t *testing.T) {
	head, device := head(), device()
	segment := func(of ...byte) []byte { return slices.Concat(head, []byte{1, 2, 0, 2, 0}, of) }
	space := func(of ...byte) []byte { return slices.Concat(head, []byte{2, 4, 0, 2, 0}, of, device) }
	trySome(t, []some{
		{"no data", true, segment(1, 0, 0)},
		{"data of a byte", true, segment(1, 0, 1, 7)},
		{"a byte for two", false, segment(1, 0, 2, 7)},
		{"two bytes for one", false, segment(1, 0, 1, 7, 7)},
		{"a byte in no page", false, segment(0, 0, 1, 7)},
		{"a page of data", true, segment(slices.Concat([]byte{1, 0, 64}, pattern(64))...)},
		{"a byte more", false, segment(slices.Concat([]byte{1, 0, 65}, pattern(65))...)},
		{"16 pages of data", true, segment(slices.Concat([]byte{16, 4, 0}, pattern(1024))...)},
		{"as much data as there may be bytes", false, segment(slices.Concat([]byte{16, 255, 255}, pattern(65535))...)},
		{"no maps", true, space(0)},
		{"a map to read", true, space(1, 0, 0, 0, 2, 0, 0, 0, 1, 0, 0)},
		{"a map to write", true, space(1, 0, 0, 0, 2, 0, 0, 0, 1, 0, 1)},
		{"a map with a Write of 2", false, space(1, 0, 0, 0, 2, 0, 0, 0, 1, 0, 2)},
		{"a map with a Write of 2, and a label behind it", false, space(1, 0, 0, 0, 2, 0, 0, 0, 1, 0, 2, 2, 0)},
		{"a map with a Write of 2, and a second one for none", false, space(1, 0, 0, 0, 2, 0, 0, 0, 1, 0, 2, 0, 0)},
		{"a map with a Write of 256", false, space(1, 0, 0, 0, 2, 0, 0, 0, 1, 1, 0)},
		{"a map with a Write of 257", false, space(1, 0, 0, 0, 2, 0, 0, 0, 1, 1, 1)},
		{"a map with a Write of 65535", false, space(1, 0, 0, 0, 2, 0, 0, 0, 1, 255, 255)},
		{"a map of what isn't there", false, space(1, 0, 0, 0, 3, 0, 0, 0, 1, 0, 0)},
		{"a map of what isn't there in more than a byte", false, space(1, 0, 0, 1, 2, 0, 0, 0, 1, 0, 0)},
		{"two maps for one", false, space(1, 0, 0, 0, 2, 0, 0, 0, 1, 0, 0, 0, 1, 0, 2, 0, 0, 0, 1, 0, 0)},
		{"one map for two", false, space(2, 0, 0, 0, 2, 0, 0, 0, 1, 0, 0)},
		{"two maps", true, space(2, 0, 0, 0, 2, 0, 0, 0, 1, 0, 0, 0, 1, 0, 2, 0, 0, 0, 1, 0, 0)},
		{"kind 0", false, slices.Concat(head, []byte{1, 0, 0, 2, 0})},
		{"kind 7", false, slices.Concat(head, []byte{1, 7, 0, 2, 0})},
		{"a label with a pair of the default", false, slices.Concat(head, []byte{1, 6, 0, 2, 1, 0, 0, 0, 5, 2})},
		{"a label with a pair", true, slices.Concat(head, []byte{1, 6, 0, 2, 1, 0, 0, 0, 5, 3})},
		{"a label without its pair", false, slices.Concat(head, []byte{1, 6, 0, 2, 1})},
		{"a thread", true, slices.Concat(head, []byte{1, 3, 0, 2, 0, 2, 0, 1, 0, 3, 255, 255})},
		{"a thread with a space that isn't there", false, slices.Concat(head, []byte{1, 3, 0, 2, 0, 2, 0, 2, 0, 3, 255, 255})},
		{"a thread behind all places", false, slices.Concat(head, []byte{1, 3, 0, 2, 0, 2, 0, 1, 0, 4, 0, 0})},
		{"a gate that is above its clearance", false, slices.Concat(head, []byte{1, 5, 0, 3, 0, 2, 0, 1, 0, 3, 255, 255})},
	})
}

// TestCut: an encoding that ends early, goes on, or begins late is none, unless it is another one's.
func TestCut(t *testing.T) {
	t.Parallel()
	r := uint64(3)
	all := samples()
	for i := range 30 {
		all = append(all, sample{"drawn", drawn(&r, i)})
	}
	for _, s := range all {
		b := encoded(s.c)
		if !checkDecode(t, s.name, b) {
			t.Fatalf("%s: tells nothing", s.name)
		}
		for n := range b {
			// Long ones are cut at all places near their ends, and at some others.
			if n > 300 && n < len(b)-300 && n%97 != 0 {
				continue
			}
			if checkDecode(t, s.name+" cut", b[:n]) {
				t.Fatalf("%s: its first %d bytes of %d tell something", s.name, n, len(b))
			}
			checkDecode(t, s.name+" begun late", b[n+1:])
		}
		for x := range 256 {
			if checkDecode(t, s.name+" with one more", append(slices.Clone(b), byte(x))) {
				t.Fatalf("%s: with a %d behind it, it tells something", s.name, x)
			}
			checkDecode(t, s.name+" with one ahead", append([]byte{byte(x)}, b...))
		}
		if checkDecode(t, s.name+" twice", slices.Concat(b, b)) {
			t.Fatalf("%s: twice, it tells something", s.name)
		}
	}
}

// TestByteChanged: an encoding with one byte changed is none, or another one's; both come about.
func TestByteChanged(t *testing.T) {
	t.Parallel()
	good, bad := 0, 0
	for _, s := range samples() {
		b := encoded(s.c)
		for i := range b {
			old := b[i]
			for _, x := range changes(len(s.c.Objects), i, old) {
				b[i] = x
				if checkDecode(t, fmt.Sprintf("%s, byte %d is %d", s.name, i, x), b) {
					good++
				} else {
					bad++
				}
			}
			b[i] = old
		}
	}
	if good < 5000 || bad < 5000 {
		t.Errorf("%d told something, %d nothing", good, bad)
	}
}

// changes are the values that a byte is changed to, in the encoding of so many objects: all, if they are few.
func changes(objects, at int, old byte) []byte {
	var l []byte
	switch {
	case objects < 20:
		for x := range 256 {
			l = append(l, byte(x))
		}
	case at < 300 || at%53 == 0:
		l = append(l, old+1, old-1, old^0x80, 0, 255)
	}
	return l
}

// TestAnyBytes: any bytes tell nothing, unless they are an encoding.
func TestAnyBytes(t *testing.T) {
	checkDecode(t, "nil", nil)
	checkDecode(t, "none", []byte{})
	for x := range 256 {
		checkDecode(t, "one byte", []byte{byte(x)})
		for _, n := range []int{7, 8, 9, 10, 11, 12, 20, 100, 1000, 70000} {
			checkDecode(t, "a byte many times", bytes.Repeat([]byte{byte(x)}, n))
		}
	}
	for x := range 1 << 16 {
		checkDecode(t, "two bytes", []byte{byte(x >> 8), byte(x)})
	}
	checkDecode(t, "very many", make([]byte, 1<<24))
	r := uint64(99)
	for range 50000 {
		b := make([]byte, draw(&r, 80))
		// Small numbers are met more often in encodings.
		top := one(&r, []int{3, 5, 7, 20, 256})
		for i := range b {
			b[i] = byte(draw(&r, top))
		}
		checkDecode(t, "drawn", b)
	}
}

// TestMixed: encodings that are cut and put together, or changed in some places, are none, or another one's.
func TestMixed(t *testing.T) {
	r, good := uint64(7), 0
	for i := range 30000 {
		a, b := encoded(drawn(&r, draw(&r, 6))), encoded(drawn(&r, draw(&r, 6)))
		if i%2 == 0 {
			b = a
		}
		from := draw(&r, len(a)+1)
		// Mostly the end of what goes on begins at about the place where the other one ended.
		to := min(len(b), max(0, from+draw(&r, 9)-4))
		mixed := slices.Concat(a[:from], b[to:])
		for range draw(&r, 3) {
			if len(mixed) > 0 {
				mixed[draw(&r, len(mixed))] = byte(draw(&r, 20))
			}
		}
		if checkDecode(t, "mixed", mixed) {
			good++
		}
	}
	if good < 1000 {
		t.Errorf("only %d told something", good)
	}
}

// TestEncodeAny: configurations that are not valid have unspecified bytes, but nothing panics, and Decode takes such bytes only for what they are.
func TestEncodeAny(t *testing.T) {
	t.Parallel()
	for _, s := range samples() {
		for i, f := range fields(s.c) {
			if i > 100 {
				break
			}
			for _, x := range numbers() {
				c := copied(s.c)
				f.set(&c, x)
				if i%7 == 0 || len(c.Objects) < 20 {
					checkDecode(t, "any", Encode(c))
				}
			}
		}
		for _, l := range strange() {
			c := copied(s.c)
			for i := range c.Objects {
				c.Objects[i].Label, c.Objects[i].Clear = l, l
			}
			checkDecode(t, "any label", Encode(c))
		}
	}
	c := least()
	c.Slots = repeated(c.Slots, 1000)
	c.Objects = repeated([]api.Object{{Kind: 4, Maps: spread(1000, 3)}}, 1000)
	checkDecode(t, "long lists", Encode(c))
	checkDecode(t, "nothing", Encode(api.Config{}))
}
