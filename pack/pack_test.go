package pack

import (
	"bytes"
	"math"
	"math/big"
	"slices"
	"testing"

	"glacis/api"
	"glacis/label"
)

// samples are valid labels: every default, every level, the edges of categories and of the number of pairs.
func samples() []api.Label {
	var all []api.Label
	for def := api.L0; def <= api.L3; def++ {
		all = append(all, api.Label{Default: def}, chain(def, api.MaxPairs))
		for level := api.Star; level <= api.L3; level++ {
			if level == def {
				continue
			}
			for _, c := range []uint32{1, 255, 256, 258, 65535, 65536, 1<<24 - 1, 1 << 24, 0x01020304, api.MaxCat - 1, api.MaxCat} {
				all = append(all, api.Label{Default: def, Pairs: []api.Pair{{Cat: c, Level: level}}})
			}
		}
	}
	return append(all, api.Label{Default: api.L2, Pairs: []api.Pair{
		{Cat: 1, Level: api.L3}, {Cat: 0x00ff00ff, Level: api.Star}, {Cat: api.MaxCat, Level: api.L1},
	}})
}

// chain is a label with n pairs of levels that are not the default.
func chain(def, n int) api.Label {
	l := api.Label{Default: def}
	for i := range n {
		level := (def + 1 + i%4) % 5
		l.Pairs = append(l.Pairs, api.Pair{Cat: uint32(i+1) * 3, Level: level})
	}
	return l
}

// encoded is the chapter's encoding, worked out without the package.
func encoded(l api.Label) []byte {
	b := []byte{byte(l.Default), byte(len(l.Pairs))}
	for _, p := range l.Pairs {
		c := int(p.Cat)
		b = append(b, byte(c/(1<<24)), byte(c/(1<<16)%256), byte(c/256%256), byte(c%256), byte(p.Level))
	}
	return b
}

// checkFailed holds a reader that has failed against what it must answer, whatever it is asked.
func checkFailed(t *testing.T, what string, r *Reader, rest int) {
	t.Helper()
	for range 2 {
		if !r.Bad() || r.Rest() != rest {
			t.Fatalf("%s: Bad is %v, Rest is %d, not %d", what, r.Bad(), r.Rest(), rest)
		}
		for _, n := range []int{math.MinInt, -1, 0, 1, 2, 8, 9, math.MaxInt} {
			if got := r.Take(n); len(got) != 0 {
				t.Fatalf("%s: Take(%d) is %v", what, n, got)
			}
			if got := r.Num(n); got != 0 {
				t.Fatalf("%s: Num(%d) is %d", what, n, got)
			}
		}
		if l := r.Label(); l.Default != 0 || len(l.Pairs) != 0 {
			t.Fatalf("%s: Label is %v", what, l)
		}
		r.Fail()
	}
}

func TestNew(t *testing.T) {
	for _, b := range [][]byte{nil, {}, {7}, {2, 0}, bytes.Repeat([]byte{9}, 300)} {
		r := New(b)
		if r == nil || r.Bad() || r.Rest() != len(b) {
			t.Fatalf("New(%v): Bad is %v, Rest is %d", b, r.Bad(), r.Rest())
		}
		if got := r.Take(len(b)); !bytes.Equal(got, b) || r.Bad() || r.Rest() != 0 {
			t.Fatalf("New(%v) reads %v", b, got)
		}
	}
}

func TestTake(t *testing.T) {
	r := New([]byte{1, 2, 3, 4, 5})
	for _, c := range []struct {
		n    int
		want []byte
	}{{0, nil}, {1, []byte{1}}, {0, nil}, {3, []byte{2, 3, 4}}, {1, []byte{5}}, {0, nil}} {
		before := r.Rest()
		if got := r.Take(c.n); !bytes.Equal(got, c.want) || r.Bad() || r.Rest() != before-c.n {
			t.Fatalf("Take(%d) is %v, Rest is %d", c.n, got, r.Rest())
		}
	}
	for _, n := range []int{math.MinInt, -5, -1, 4, 5, math.MaxInt32, math.MaxInt} {
		r := New([]byte{9, 1, 2, 3})
		r.Take(1)
		if got := r.Take(n); len(got) != 0 {
			t.Fatalf("Take(%d) of three bytes is %v", n, got)
		}
		checkFailed(t, "after Take", r, 3)
	}
	empty := New(nil)
	empty.Take(1)
	checkFailed(t, "no bytes", empty, 0)
}

func TestNum(t *testing.T) {
	b := []byte{0x81, 0x02, 0xf3, 0x04, 0x95, 0x06, 0xa7, 0xff, 0x11}
	for n := 1; n <= 8; n++ {
		r := New(b)
		want := new(big.Int).SetBytes(b[:n]).Uint64()
		if got := r.Num(n); got != want || r.Bad() || r.Rest() != len(b)-n {
			t.Fatalf("Num(%d) is %d, not %d; Rest is %d", n, got, want, r.Rest())
		}
		if got := r.Num(1); got != uint64(b[n]) {
			t.Fatalf("Num(1) behind Num(%d) is %d", n, got)
		}
		exact := New(b[:n])
		if got := exact.Num(n); got != want || exact.Bad() || exact.Rest() != 0 {
			t.Fatalf("Num(%d) of as many bytes is %d", n, got)
		}
		short := New(b[:n-1])
		if got := short.Num(n); got != 0 {
			t.Fatalf("Num(%d) of a byte less is %d", n, got)
		}
		checkFailed(t, "a byte less", short, n-1)
	}
	for _, n := range []int{math.MinInt, -1, 0, 9, 16, math.MaxInt} {
		r := New(bytes.Repeat([]byte{1}, 20))
		if got := r.Num(n); got != 0 {
			t.Fatalf("Num(%d) is %d", n, got)
		}
		checkFailed(t, "after Num", r, 20)
	}
	if got := New(bytes.Repeat([]byte{255}, 8)).Num(8); got != math.MaxUint64 {
		t.Errorf("the greatest number is %d", got)
	}
}

func TestFail(t *testing.T) {
	r := New([]byte{2, 0, 2, 0})
	if l := r.Label(); l.Default != api.L1 {
		t.Fatalf("Label is %v", l)
	}
	r.Fail()
	checkFailed(t, "Fail", r, 2)
}

func TestNilReader(t *testing.T) {
	var r *Reader
	r.Fail()
	checkFailed(t, "nil", r, 0)
}

func TestPut(t *testing.T) {
	for _, x := range []uint64{0, 1, 255, 256, 0x0102030405060708, 1 << 63, math.MaxUint64, 0xf0e0d0c0b0a09080} {
		for n := 0; n <= 12; n++ {
			low := new(big.Int).SetUint64(x)
			low.Mod(low, new(big.Int).Lsh(big.NewInt(1), uint(8*n)))
			for _, b := range [][]byte{nil, {}, {7}, {7, 0, 9}} {
				want := append(slices.Clone(b), low.FillBytes(make([]byte, n))...)
				if got := Put(b, n, x); !bytes.Equal(got, want) {
					t.Fatalf("Put(%v, %d, %d) is %v, not %v", b, n, x, got, want)
				}
			}
			if n < 1 || n > 8 {
				continue
			}
			r := New(Put(nil, n, x))
			if got := r.Num(n); got != low.Uint64() || r.Bad() || r.Rest() != 0 {
				t.Fatalf("Num(%d) reads %d back for %d", n, got, x)
			}
		}
	}
}

func TestPutAnyNumber(t *testing.T) {
	for _, n := range []int{math.MinInt, math.MinInt32, -8, -1, math.MaxInt} {
		if got := Put([]byte{1, 2}, n, 5); !bytes.Equal(got, []byte{1, 2}) {
			t.Errorf("Put of %d bytes is %d bytes long", n, len(got))
		}
	}
}

func TestLabel(t *testing.T) {
	for _, l := range samples() {
		if !label.Right(l) {
			t.Fatalf("the sample %v is not valid", l)
		}
		for _, b := range [][]byte{nil, {}, {3, 1, 4}} {
			want := append(slices.Clone(b), encoded(l)...)
			if got := Label(b, l); !bytes.Equal(got, want) {
				t.Fatalf("Label(%v, %v) is %v, not %v", b, l, got, want)
			}
		}
		b := encoded(l)
		r := New(append(slices.Clone(b), 99))
		if got := r.Label(); !label.Same(got, l) || r.Bad() || r.Rest() != 1 || r.Num(1) != 99 {
			t.Fatalf("Label of %v is %v", b, got)
		}
	}
	if got := Label(nil, label.Of(api.L1)); !bytes.Equal(got, []byte{2, 0}) {
		t.Errorf("Label(nil, {1}) is %v", got)
	}
}

// wrong are bytes of which no beginning is a valid label's encoding.
func wrong() map[string][]byte {
	return map[string][]byte{
		"nothing":              {},
		"a default alone":      {2},
		"default Star":         {0, 0},
		"default High":         {5, 0},
		"default 255":          {255, 0},
		"no pair":              {2, 1},
		"half a pair":          {2, 1, 0, 0, 0},
		"a pair without level": {2, 1, 0, 0, 0, 1},
		"one pair of two":      {2, 2, 0, 0, 0, 1, 4},
		"category 0":           {2, 1, 0, 0, 0, 0, 4},
		"category MaxCat + 1":  {2, 1, 0x40, 0, 0, 1, 4},
		"the greatest number":  {2, 1, 255, 255, 255, 255, 4},
		"level High":           {2, 1, 0, 0, 0, 1, 5},
		"level 255":            {2, 1, 0, 0, 0, 1, 255},
		"the default's level":  {2, 1, 0, 0, 0, 1, 2},
		"twice":                {2, 2, 0, 0, 0, 1, 4, 0, 0, 0, 1, 3},
		"falling":              {2, 2, 0, 0, 0, 2, 4, 0, 0, 0, 1, 3},
		"a pair too many":      encoded(chain(api.L1, api.MaxPairs+1)),
		"255 pairs":            encoded(chain(api.L1, 255)),
	}
}

func TestLabelWrong(t *testing.T) {
	for what, b := range wrong() {
		r := New(b)
		if l := r.Label(); l.Default != 0 || len(l.Pairs) != 0 {
			t.Errorf("%s: Label is %v", what, l)
		}
		checkFailed(t, what, r, len(b))
		ahead := New(append([]byte{2, 0}, b...))
		ahead.Label()
		ahead.Label()
		checkFailed(t, what, ahead, len(b))
		checkForm(t, what, b, 1)
	}
}

// checkForm holds that bytes are not so many labels.
func checkForm(t *testing.T, what string, b []byte, n int) {
	t.Helper()
	if got, e := Labels(b, n); e != api.ErrForm || len(got) != 0 {
		t.Errorf("%s: Labels(%v, %d) is %v, %v", what, b, n, got, e)
	}
}

func TestLabels(t *testing.T) {
	all := samples()
	for _, n := range []int{0, 1, 2, 3, len(all)} {
		var b []byte
		for _, l := range all[:n] {
			b = Label(b, l)
		}
		got, e := Labels(b, n)
		if e != api.OK || !slices.EqualFunc(got, all[:n], label.Same) {
			t.Fatalf("%d labels are read as %v, %v", n, got, e)
		}
		for _, m := range []int{math.MinInt, -1, n - 1, n + 1, math.MaxInt} {
			checkForm(t, "another number", b, m)
		}
		checkForm(t, "a byte more", append(slices.Clone(b), 2), n)
		checkForm(t, "a byte more", append(slices.Clone(b), 0), n)
		if n > 0 {
			checkForm(t, "a byte less", b[:len(b)-1], n)
		}
	}
	checkForm(t, "no bytes", nil, -1)
	checkForm(t, "no bytes", nil, 1)
	if got, e := Labels(nil, 0); e != api.OK || len(got) != 0 {
		t.Errorf("Labels(nil, 0) is %v, %v", got, e)
	}
}

func TestLabelsCut(t *testing.T) {
	for _, l := range samples() {
		b := Label(nil, l)
		for n := range b {
			checkForm(t, "cut off", b[:n], 1)
		}
		checkForm(t, "a byte ahead", append([]byte{0}, b...), 1)
		checkForm(t, "a byte behind", append(slices.Clone(b), b[0]), 1)
		checkForm(t, "twice", append(slices.Clone(b), b...), 1)
	}
}

// checkOnly holds that bytes which are read as a label are those that Label writes of it.
func checkOnly(t *testing.T, b []byte) bool {
	t.Helper()
	got, e := Labels(b, 1)
	if e != api.OK {
		if e != api.ErrForm || len(got) != 0 {
			t.Fatalf("Labels(%v, 1) is %v, %v", b, got, e)
		}
		return false
	}
	if len(got) != 1 || !label.Right(got[0]) || !bytes.Equal(encoded(got[0]), b) || !bytes.Equal(Label(nil, got[0]), b) {
		t.Fatalf("Labels(%v, 1) is %v", b, got)
	}
	return true
}

// TestOnly is P3.2: of all bytes of some kinds, those that are read are those that are written.
func TestOnly(t *testing.T) {
	read := 0
	for x := range 1 << 16 {
		if checkOnly(t, []byte{byte(x >> 8), byte(x)}) {
			read++
		}
	}
	if read != 4 {
		t.Errorf("%d of the lists of two bytes are labels, not 4", read)
	}
	some := []byte{0, 1, 2, 4, 5, 0x40, 255}
	read = 0
	for _, level := range some {
		for _, low := range some {
			for _, high := range some {
				for _, pairs := range some {
					for _, def := range some {
						if checkOnly(t, []byte{def, pairs, high, 0, 0, low, level}) {
							read++
						}
					}
				}
			}
		}
	}
	// Of the seven bytes, 1, 2 and 4 are defaults; each leaves three of the four levels.
	// The first byte of a category may be 0 to 5, with any last byte but 0 behind 0, or 0x40, with 0 alone.
	if want := 3 * 3 * (6 + 4*7 + 1); read != want {
		t.Errorf("%d of the lists of seven bytes are labels, not %d", read, want)
	}
}

func TestOnlyChanged(t *testing.T) {
	for _, l := range samples() {
		b := Label(nil, l)
		for i := range b {
			for x := range 256 {
				c := slices.Clone(b)
				c[i] = byte(x)
				checkOnly(t, c)
			}
		}
	}
}

// TestNewMemory holds that arguments stay as they were, and that answers share nothing with them or with each other.
func TestNewMemory(t *testing.T) {
	room := []byte{1, 2, 3, 77, 77, 77, 77, 77, 77, 77}
	b := room[:3]
	one, two := Put(b, 2, 5), Put(b, 2, 6)
	l, m := Label(b, label.Of(api.L1)), Label(b, label.Of(api.L2))
	none := Put(b, 0, 9)
	none[0] = 50
	for _, c := range []struct{ got, want []byte }{
		{one, []byte{1, 2, 3, 0, 5}}, {two, []byte{1, 2, 3, 0, 6}},
		{l, []byte{1, 2, 3, 2, 0}}, {m, []byte{1, 2, 3, 3, 0}},
		{room, []byte{1, 2, 3, 77, 77, 77, 77, 77, 77, 77}},
	} {
		if !bytes.Equal(c.got, c.want) {
			t.Errorf("%v is not %v", c.got, c.want)
		}
	}
	one[0], l[0] = 60, 60
	if room[0] != 1 {
		t.Error("an answer shares memory with the argument")
	}
}

func TestReaderMemory(t *testing.T) {
	b := []byte{1, 2, 3, 4}
	r := New(b)
	b[1] = 99
	got := r.Take(2)
	if !bytes.Equal(got, []byte{1, 2}) {
		t.Errorf("the reader kept its argument: Take is %v", got)
	}
	got[0] = 98
	got = append(got, 97)
	if !bytes.Equal(b, []byte{1, 99, 3, 4}) || r.Num(2) != 0x0304 {
		t.Errorf("%v shares memory with the reader, or with its argument", got)
	}
	l := api.Label{Default: api.L1, Pairs: []api.Pair{{Cat: 5, Level: api.L3}}}
	read, _ := Labels(slices.Concat(encoded(l), encoded(l)), 2)
	read[0].Pairs[0].Cat = 6
	if !label.Same(read[1], l) {
		t.Error("two labels share their pairs")
	}
	Label(nil, l)
	if !label.Same(l, chainOf(5, api.L3)) {
		t.Error("Label changed its argument")
	}
}

// chainOf is {1, c level}.
func chainOf(c uint32, level int) api.Label { return label.With(label.Of(api.L1), c, level) }

// TestAnyLabel is P0: Label ends without a panic for labels that are not valid, too, and is not read back.
func TestAnyLabel(t *testing.T) {
	for _, l := range []api.Label{
		{}, {Default: api.High}, {Default: math.MinInt}, {Default: math.MaxInt, Pairs: chain(api.L1, 600).Pairs},
		{Default: api.L1, Pairs: []api.Pair{{Cat: math.MaxUint32, Level: -1}, {Cat: 0, Level: math.MaxInt}}},
		label.Raise(chainOf(4, api.Star)),
	} {
		checkForm(t, "not valid", Label(nil, l), 1)
	}
}
