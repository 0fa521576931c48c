package config

import (
	"bytes"
	"fmt"
	"math"
	"slices"
	"testing"

	"glacis/api"
)

// read is the script of bytes by the chapter's words, reckoned by places.
func read(b []byte) []api.Act {
	var l []api.Act
	for at := 0; at < len(b); at++ {
		a := api.Act{N: int(b[at]) / 4}
		switch int(b[at]) % 4 {
		case 2:
			a.Kind = 1
		case 3:
			a.Kind = 2
			at++
			long := 0
			if at < len(b) {
				long = int(b[at]) % 33
			}
			for ; long > 0 && at+1 < len(b); long-- {
				at++
				a.Data = append(a.Data, b[at])
			}
		}
		l = append(l, a)
	}
	return l
}

func sameActs(a, b []api.Act) bool {
	return slices.EqualFunc(a, b, func(x, y api.Act) bool {
		return x.Kind == y.Kind && x.N == y.N && bytes.Equal(x.Data, y.Data)
	})
}

// isScript is whether all acts are of the chapter's kinds, within its bounds.
func isScript(l []api.Act) bool {
	return !slices.ContainsFunc(l, func(a api.Act) bool {
		return a.Kind < 0 || a.Kind > 2 || a.N < 0 || a.N > 63 || len(a.Data) > 32 || a.Kind != 2 && a.Data != nil
	})
}

// checkScript holds Script of any bytes against the reckoning, and Bytes of what it is against it.
func checkScript(t *testing.T, what string, b []byte) []api.Act {
	t.Helper()
	before := slices.Clone(b)
	l := Script(b)
	if want := read(b); !sameActs(l, want) || !isScript(l) {
		t.Fatalf("%s: Script(%v) is %v, not %v", what, before, l, want)
	}
	if again := Script(Bytes(l)); !sameActs(again, l) {
		t.Fatalf("%s: %v is restored as %v", what, l, again)
	}
	if !bytes.Equal(b, before) {
		t.Fatalf("%s: Script changed its bytes", what)
	}
	return l
}

// checkBytes holds that a script is restored from its bytes, and that these have no act too many or too few by the reckoning.
func checkBytes(t *testing.T, what string, l []api.Act) {
	t.Helper()
	b := Bytes(l)
	if got := Script(b); !sameActs(got, l) {
		t.Fatalf("%s: Script of Bytes(%v) is %v", what, l, got)
	}
	if got := read(b); !sameActs(got, l) {
		t.Fatalf("%s: Bytes(%v) is %v, which tells %v", what, l, b, got)
	}
}

func TestScriptByHand(t *testing.T) {
	long := pattern(40)
	for _, x := range []struct {
		b    []byte
		want []api.Act
	}{
		{nil, nil},
		// The chapter's example: of two bytes one is there.
		{[]byte{3, 2, 7}, []api.Act{{Kind: api.Input, Data: []byte{7}}}},
		{[]byte{0}, []api.Act{{Kind: api.Pick}}},
		{[]byte{1}, []api.Act{{Kind: api.Pick}}},
		{[]byte{2}, []api.Act{{Kind: api.Tick}}},
		{[]byte{3}, []api.Act{{Kind: api.Input}}},
		{[]byte{252, 253, 254, 255}, []api.Act{{Kind: api.Pick, N: 63}, {Kind: api.Pick, N: 63}, {Kind: api.Tick, N: 63}, {Kind: api.Input, N: 63}}},
		{[]byte{7, 0, 7, 33, 7, 66, 4}, []api.Act{{Kind: api.Input, N: 1}, {Kind: api.Input, N: 1}, {Kind: api.Input, N: 1}, {Kind: api.Pick, N: 1}}},
		{[]byte{11, 5, 1, 2}, []api.Act{{Kind: api.Input, N: 2, Data: []byte{1, 2}}}},
		{[]byte{11, 34, 1, 2}, []api.Act{{Kind: api.Input, N: 2, Data: []byte{1}}, {Kind: api.Tick}}},
		{slices.Concat([]byte{3, 32}, long), append([]api.Act{{Kind: api.Input, Data: long[:32]}}, read(long[32:])...)},
		{slices.Concat([]byte{3, 255}, long[:24], []byte{5}), []api.Act{{Kind: api.Input, Data: long[:24]}, {Kind: api.Pick, N: 1}}},
	} {
		if got := Script(x.b); !sameActs(got, x.want) {
			t.Errorf("Script(%v) is %v, not %v", x.b, got, x.want)
		}
		checkScript(t, "by hand", x.b)
	}
}

// TestScriptOfShortBytes: all of none, one and two bytes, and of three, all that begin with an input.
func TestScriptOfShortBytes(t *testing.T) {
	checkScript(t, "nil", nil)
	checkScript(t, "none", []byte{})
	for x := range 1 << 8 {
		if l := checkScript(t, "one", []byte{byte(x)}); len(l) != 1 {
			t.Fatalf("%d is %v", x, l)
		}
	}
	for x := range 1 << 16 {
		checkScript(t, "two", []byte{byte(x >> 8), byte(x)})
	}
	for x := range 1 << 16 {
		checkScript(t, "three", []byte{byte(x>>8)%64*4 + 3, byte(x), byte(x * 7)})
	}
}

// TestPackets: each number of bytes that an input may tell, with fewer behind it, as many, and more.
func TestPackets(t *testing.T) {
	behind := []byte{10, 13, 3, 1, 5, 255, 254}
	for x := range 256 {
		for there := range 40 {
			b := slices.Concat([]byte{8, 7, byte(x)}, pattern(there))
			l := checkScript(t, "a packet", b)
			if len(l) < 2 || len(l[1].Data) != min(x%33, there) {
				t.Fatalf("%v is %v", b, l)
			}
			checkScript(t, "a packet and more", append(b, behind...))
		}
	}
}

func TestScriptOfAnyBytes(t *testing.T) {
	r := uint64(6)
	for i := range 20000 {
		b := make([]byte, draw(&r, 1+i%200))
		for j := range b {
			b[j] = byte(draw(&r, 256))
			if i%3 == 0 {
				b[j] |= 3
			}
		}
		checkScript(t, "drawn", b)
	}
	for x := range 256 {
		checkScript(t, "a byte many times", bytes.Repeat([]byte{byte(x)}, 1000))
	}
	checkScript(t, "many", pattern(1<<20))
}

// TestBytes: all acts, alone and two by two, and long scripts, are restored from their bytes.
func TestBytes(t *testing.T) {
	if got := Bytes(nil); len(got) != 0 {
		t.Fatalf("Bytes of nothing is %v", got)
	}
	checkBytes(t, "nothing", []api.Act{})
	var all []api.Act
	for n := range 64 {
		all = append(all, api.Act{Kind: api.Pick, N: n}, api.Act{Kind: api.Tick, N: n})
		for long := range 33 {
			all = append(all, api.Act{Kind: api.Input, N: n, Data: pattern(long)})
		}
	}
	checkBytes(t, "all", all)
	for i, a := range all {
		checkBytes(t, "one", []api.Act{a})
		for j := i % 5; j < len(all); j += 5 {
			checkBytes(t, "two", []api.Act{a, all[j]})
		}
	}
	for _, fill := range []byte{0, 1, 2, 3, 32, 33, 254, 255} {
		for long := range 33 {
			a := api.Act{Kind: api.Input, N: 63, Data: bytes.Repeat([]byte{fill}, long)}
			checkBytes(t, "bytes like acts", []api.Act{a, a, {Kind: api.Tick, N: 63}, a})
		}
	}
	r := uint64(44)
	for i := range 5000 {
		var l []api.Act
		for range draw(&r, 1+i%200) {
			l = append(l, one(&r, all))
		}
		checkBytes(t, "drawn", l)
	}
	if got := Bytes([]api.Act{{N: 1}, {Kind: api.Tick}, {Kind: api.Input, N: 1, Data: []byte{9, 8}}}); string(got) != "\x04\x02\x07\x02\x09\x08" {
		t.Errorf("Bytes by hand is %v", got)
	}
}

// TestBytesOfAnyActs: what is no script has unspecified bytes, but nothing panics, and the acts about it are restored.
func TestBytesOfAnyActs(t *testing.T) {
	tick := api.Act{Kind: api.Tick, N: 9}
	for _, kind := range append(numbers(), api.Pick, api.Tick, api.Input) {
		for _, n := range numbers() {
			for _, long := range []int{0, 1, 32, 33, 34, 66, 255, 256, 1000} {
				l := []api.Act{tick, {Kind: kind, N: n, Data: pattern(long)}, tick}
				got := Script(Bytes(l))
				if len(got) < 2 || !sameActs(got[:1], l[:1]) || !sameActs(got[len(got)-1:], l[2:]) {
					t.Fatalf("Script of Bytes(%v) is %v", l, got)
				}
			}
		}
	}
	checkScript(t, "long packets", Bytes([]api.Act{{Kind: api.Input, N: math.MaxInt, Data: pattern(1 << 20)}}))
	for _, n := range []int{1, 2, 33, 100, 1 << 16} {
		checkBytes(t, fmt.Sprintf("%d ticks", n), slices.Repeat([]api.Act{tick}, n))
	}
}
