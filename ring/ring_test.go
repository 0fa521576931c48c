package ring

import (
	"bytes"
	"math"
	"slices"
	"testing"

	"glacis/api"
)

// lengths are those of packets: none, around MaxPacket, and far beyond it.
var lengths = []int{0, 1, 2, 7, 8, 9, 30, 31, 32, 33, 34, 63, 64, 65, 255, 256, 257, 4096, 1 << 20}

// numbers are some that a device takes, the edges among them.
var numbers = []uint64{0, 1, 2, 255, 256, math.MaxInt32, math.MaxUint32, 1 << 32, math.MaxInt64, 1 << 63, math.MaxUint64 - 1, math.MaxUint64}

// packetOf is n bytes of which none is 0, other ones for each seed.
func packetOf(seed, n int) []byte {
	b := make([]byte, n)
	for i := range b {
		b[i] = byte((seed*37+i*11)%255 + 1)
	}
	return b
}

// A model is what a ring should hold.
type model struct {
	waiting [][]byte
	lost    int
	out     []uint64
}

// push is the chapter's Push, with the chapter's numbers.
func (m *model) push(b []byte) bool {
	if len(m.waiting) == 8 {
		m.lost++
		return false
	}
	m.waiting = append(m.waiting, slices.Clone(b[:min(len(b), 32)]))
	return true
}

// pop is the chapter's Pop.
func (m *model) pop() ([]byte, bool) {
	if len(m.waiting) == 0 {
		return nil, false
	}
	first := m.waiting[0]
	m.waiting = m.waiting[1:]
	return first, true
}

// put is the chapter's Put.
func (m *model) put(x uint64) bool {
	if len(m.out) == 1024 {
		return false
	}
	m.out = append(m.out, x)
	return true
}

// copied is a model that the calls on the first one don't change.
func (m *model) copied() *model {
	return &model{slices.Clone(m.waiting), m.lost, slices.Clone(m.out)}
}

// collect is what a ring yields, left behind the first n packets.
func collect(all func(func([]byte) bool), n int) [][]byte {
	var got [][]byte
	for b := range all {
		got = append(got, b)
		if len(got) == n {
			break
		}
	}
	return got
}

func same(a, b [][]byte) bool { return slices.EqualFunc(a, b, bytes.Equal) }

// check holds everything that can be asked of a ring without changing it against the model.
func check(t *testing.T, what string, r *Ring, m *model) {
	t.Helper()
	for range 2 {
		if r.Len() != len(m.waiting) || r.Lost() != m.lost {
			t.Fatalf("%s: Len is %d, Lost is %d, not %d and %d", what, r.Len(), r.Lost(), len(m.waiting), m.lost)
		}
		if got := collect(r.All(), -1); !same(got, m.waiting) {
			t.Fatalf("%s: All yields %v, not %v", what, got, m.waiting)
		}
		if got := r.Out(); !slices.Equal(got, m.out) {
			t.Fatalf("%s: Out is %v, not %v", what, got, m.out)
		}
	}
}

// push, pop and put do one call on a ring and on its model, and hold them against one another.
func push(t *testing.T, what string, r *Ring, m *model, b []byte) {
	t.Helper()
	if got, want := r.Push(b), m.push(b); got != want {
		t.Fatalf("%s: Push of %d bytes is %v, not %v", what, len(b), got, want)
	}
	check(t, what, r, m)
}

func pop(t *testing.T, what string, r *Ring, m *model) {
	t.Helper()
	got, ok := r.Pop()
	if want, is := m.pop(); ok != is || !bytes.Equal(got, want) {
		t.Fatalf("%s: Pop is %v, %v, not %v, %v", what, got, ok, want, is)
	}
	check(t, what, r, m)
}

func put(t *testing.T, what string, r *Ring, m *model, x uint64) {
	t.Helper()
	if got, want := r.Put(x), m.put(x); got != want {
		t.Fatalf("%s: Put(%d) is %v, not %v", what, x, got, want)
	}
	check(t, what, r, m)
}

// mixed is a ring and its model: five packets wait, two were taken, three were lost, and four numbers were put out.
func mixed(t *testing.T) (*Ring, *model) {
	t.Helper()
	r, m := &Ring{}, &model{}
	for i, n := range []int{5, 32, 1, 0, 33, 8, 31, 40, 4, 4, 4} {
		push(t, "mixed", r, m, packetOf(i, n))
	}
	for range 3 {
		pop(t, "mixed", r, m)
	}
	for _, x := range []uint64{7, 0, math.MaxUint64, 7} {
		put(t, "mixed", r, m, x)
	}
	return r, m
}

func TestLimits(t *testing.T) {
	if MaxOut != 1024 || api.MaxPacket != 32 || api.MaxRing != 8 {
		t.Errorf("MaxOut is %d, MaxPacket is %d, MaxRing is %d", MaxOut, api.MaxPacket, api.MaxRing)
	}
}

// TestZeroValue asks everything of rings that no call made: a variable, new memory, and one in another thing.
func TestZeroValue(t *testing.T) {
	var a Ring
	var in struct{ ring Ring }
	for _, r := range []*Ring{&a, new(Ring), {}, &in.ring} {
		m := &model{}
		check(t, "zero value", r, m)
		pop(t, "zero value", r, m)
		push(t, "zero value", r, m, []byte{1, 2})
		put(t, "zero value", r, m, 3)
		pop(t, "zero value", r, m)
	}
	var b Ring
	if !b.Put(0) || !slices.Equal(b.Out(), []uint64{0}) {
		t.Errorf("Put first: Out is %v", b.Out())
	}
	var c Ring
	if got, ok := c.Pop(); ok || len(got) != 0 || !c.Push(nil) || c.Len() != 1 {
		t.Errorf("Pop first is %v, %v", got, ok)
	}
}

func TestExample(t *testing.T) {
	var r Ring
	for i := range 9 {
		if got := r.Push([]byte{byte(i)}); got != (i < 8) {
			t.Errorf("Push of packet %d is %v", i, got)
		}
	}
	if r.Lost() != 1 || r.Len() != 8 {
		t.Errorf("Lost is %d, Len is %d", r.Lost(), r.Len())
	}
}

// TestPacket pushes packets of each length, alone and behind another one, and holds the bytes that stay.
func TestPacket(t *testing.T) {
	for _, n := range lengths {
		for before := range 3 {
			r, m := &Ring{}, &model{}
			for i := range before {
				push(t, "before", r, m, packetOf(i, 32))
			}
			b := packetOf(9, n)
			push(t, "a packet", r, m, b)
			for range before {
				pop(t, "a packet", r, m)
			}
			got, ok := r.Pop()
			if !ok || len(got) != min(n, 32) || !bytes.Equal(got, b[:min(n, 32)]) {
				t.Errorf("of %d bytes, %v and %v are taken", n, got, ok)
			}
			if r.Len() != 0 || r.Lost() != 0 {
				t.Errorf("behind a packet of %d bytes, Len is %d, Lost is %d", n, r.Len(), r.Lost())
			}
		}
	}
}

// TestEmptyPackets: a packet without bytes waits, is taken and is lost like any other.
func TestEmptyPackets(t *testing.T) {
	for _, b := range [][]byte{nil, {}, make([]byte, 0, 64)} {
		r, m := &Ring{}, &model{}
		for range 10 {
			push(t, "an empty packet", r, m, b)
		}
		if r.Len() != 8 || r.Lost() != 2 || len(collect(r.All(), -1)) != 8 {
			t.Fatalf("of ten empty packets %d wait, %d are lost", r.Len(), r.Lost())
		}
		for i := range 8 {
			if got, ok := r.Pop(); !ok || len(got) != 0 || r.Len() != 7-i {
				t.Fatalf("Pop of an empty packet is %v, %v", got, ok)
			}
		}
		if got, ok := r.Pop(); ok || len(got) != 0 {
			t.Fatalf("Pop behind the empty packets is %v, %v", got, ok)
		}
	}
}

// TestZeros: bytes that are 0 are bytes of a packet, also at its end.
func TestZeros(t *testing.T) {
	r, m := &Ring{}, &model{}
	for _, n := range []int{1, 5, 31, 32, 33} {
		push(t, "zeros", r, m, make([]byte, n))
	}
	for _, n := range []int{1, 5, 31, 32, 32} {
		if got, ok := r.Pop(); !ok || !bytes.Equal(got, make([]byte, n)) {
			t.Errorf("Pop of %d zeros is %v, %v", n, got, ok)
		}
	}
}

// TestShorter: where a long packet was, a shorter one comes with its own bytes alone.
func TestShorter(t *testing.T) {
	r, m := &Ring{}, &model{}
	for round := range 20 {
		for i := range 8 {
			push(t, "shorter", r, m, packetOf(round+i, 32-round))
		}
		for range 8 {
			pop(t, "shorter", r, m)
		}
	}
}

// TestNothingStays: no call tells it, but a ring keeps nothing of packets that were taken.
func TestNothingStays(t *testing.T) {
	var r Ring
	for n := range 9 {
		for i := range n {
			r.Push(packetOf(i, 32))
		}
		for range n {
			r.Pop()
		}
		if r.waiting != (Ring{}).waiting || r.n != 0 {
			t.Fatalf("of %d packets taken, something stays: %v", n, r)
		}
	}
}

// TestFull pushes up to and beyond what may wait, and takes them all in the order in which they came.
func TestFull(t *testing.T) {
	for _, n := range []int{1, 2, 7, 8, 9, 10, 16, 17, 100} {
		r, m := &Ring{}, &model{}
		for i := range n {
			push(t, "filling", r, m, packetOf(i, 1+i%33))
		}
		if r.Len() != min(n, 8) || r.Lost() != max(0, n-8) {
			t.Fatalf("of %d packets %d wait, %d are lost", n, r.Len(), r.Lost())
		}
		for range min(n, 8) + 3 {
			pop(t, "taking", r, m)
		}
		if r.Len() != 0 || r.Lost() != max(0, n-8) {
			t.Fatalf("of %d packets, all taken, %d wait, %d are lost", n, r.Len(), r.Lost())
		}
	}
}

// TestLost: a lost packet changes no other, packets are lost also when some were taken, and none is found again.
func TestLost(t *testing.T) {
	r, m := &Ring{}, &model{}
	next := 0
	for take := range 9 {
		for r.Len() < 8 {
			push(t, "filling up", r, m, packetOf(next, 3))
			next++
		}
		lost := r.Lost()
		for i := range take + 1 {
			push(t, "too many", r, m, packetOf(next, 3))
			next++
			if r.Lost() != lost+i+1 || r.Len() != 8 {
				t.Fatalf("Lost is %d, Len is %d", r.Lost(), r.Len())
			}
		}
		for range take {
			pop(t, "taking", r, m)
		}
	}
	if r.Lost() != 45 {
		t.Errorf("Lost is %d", r.Lost())
	}
}

// TestComeAndGo lets packets come and go many times, with each number of them waiting meanwhile.
func TestComeAndGo(t *testing.T) {
	for waiting := range 9 {
		r, m := &Ring{}, &model{}
		for i := range waiting {
			push(t, "waiting", r, m, packetOf(i, i))
		}
		for i := range 60 {
			if waiting == 8 {
				pop(t, "come and go", r, m)
				push(t, "come and go", r, m, packetOf(i, i%34))
				push(t, "come and go", r, m, packetOf(200, 2))
				continue
			}
			push(t, "come and go", r, m, packetOf(i, i%34))
			pop(t, "come and go", r, m)
		}
		if r.Len() != waiting {
			t.Fatalf("%d wait, not %d", r.Len(), waiting)
		}
	}
}

func TestPopEmpty(t *testing.T) {
	r, m := &Ring{}, &model{}
	for i := range 30 {
		for range 3 {
			pop(t, "empty", r, m)
			if got, ok := r.Pop(); ok || len(got) != 0 {
				t.Fatalf("Pop of an empty ring is %v, %v", got, ok)
			}
		}
		push(t, "once empty", r, m, packetOf(i, 32))
		pop(t, "once empty", r, m)
	}
	if r.Len() != 0 || r.Lost() != 0 {
		t.Errorf("Len is %d, Lost is %d", r.Len(), r.Lost())
	}
}

// TestAll ranges over rings with each number of packets, at each beginning, and leaves behind each.
func TestAll(t *testing.T) {
	for taken := range 9 {
		for waiting := range 9 {
			r, m := &Ring{}, &model{}
			for i := range taken {
				push(t, "before", r, m, packetOf(i, 4))
			}
			for range taken {
				pop(t, "before", r, m)
			}
			for i := range waiting {
				push(t, "waiting", r, m, packetOf(50+i, 4*i+4))
			}
			for leave := 1; leave <= waiting; leave++ {
				if got := collect(r.All(), leave); !same(got, m.waiting[:leave]) {
					t.Fatalf("left behind %d of %d, All yields %v", leave, waiting, got)
				}
				check(t, "left early", r, m)
			}
			for i := range waiting {
				if got := collect(r.All(), -1); !same(got, m.waiting) || len(got) != waiting-i {
					t.Fatalf("All yields %v, not %v", got, m.waiting)
				}
				pop(t, "behind All", r, m)
			}
		}
	}
}

func TestAllEmpty(t *testing.T) {
	once, _ := mixed(t)
	for range 5 {
		once.Pop()
	}
	for _, r := range []*Ring{{}, once, nil} {
		all := r.All()
		if all == nil {
			t.Fatal("All is nil")
		}
		for range 2 {
			all(func(b []byte) bool {
				t.Errorf("an empty ring yields %v", b)
				return true
			})
		}
	}
}

// TestAllStops: once yield has said no, it isn't asked again.
func TestAllStops(t *testing.T) {
	r, m := mixed(t)
	for n := 1; n <= 5; n++ {
		times := 0
		r.All()(func([]byte) bool {
			times++
			return times < n
		})
		if times != n {
			t.Errorf("yield is called %d times, not %d", times, n)
		}
	}
	check(t, "stopped", r, m)
}

func TestAllOfNoYield(t *testing.T) {
	r, m := mixed(t)
	for _, x := range []*Ring{r, {}, nil} {
		x.All()(nil)
	}
	check(t, "no yield", r, m)
}

// TestAllTwice ranges over one answer of All more than once, also within itself.
func TestAllTwice(t *testing.T) {
	r, m := mixed(t)
	all := r.All()
	for range 3 {
		if got := collect(all, -1); !same(got, m.waiting) {
			t.Fatalf("All ranged over again yields %v", got)
		}
		if got := collect(all, 2); !same(got, m.waiting[:2]) {
			t.Fatalf("All ranged over again and left yields %v", got)
		}
	}
	n := 0
	for a := range all {
		for b := range all {
			if n++; !bytes.Equal(a, m.waiting[(n-1)/5]) || !bytes.Equal(b, m.waiting[(n-1)%5]) {
				t.Fatalf("in turn %d, All within itself yields %v and %v", n, a, b)
			}
		}
	}
	if n != 25 {
		t.Errorf("All within itself yields %d times", n)
	}
}

// TestAllWhileChanging: what comes or is taken behind the call of All changes nothing that it yields.
func TestAllWhileChanging(t *testing.T) {
	changes := map[string]func(r *Ring, m *model){
		"Push": func(r *Ring, m *model) { r.Push([]byte{99}); m.push([]byte{99}) },
		"Pop":  func(r *Ring, m *model) { r.Pop(); m.pop() },
		"both": func(r *Ring, m *model) {
			r.Pop()
			m.pop()
			r.Push(packetOf(77, 32))
			m.push(packetOf(77, 32))
		},
	}
	for what, change := range changes {
		r, m := mixed(t)
		want, all := slices.Clone(m.waiting), r.All()
		change(r, m)
		var got [][]byte
		for b := range all {
			got = append(got, b)
			change(r, m)
		}
		if !same(got, want) {
			t.Errorf("%s while All yields: %v, not %v", what, got, want)
		}
		check(t, what, r, m)
	}
}

// TestPushKeepsNothing: Push leaves its bytes as they are, and what the caller makes of them later is nothing to the ring.
func TestPushKeepsNothing(t *testing.T) {
	for _, n := range lengths {
		r, m := &Ring{}, &model{}
		b := packetOf(3, n)
		for range 9 {
			push(t, "Push", r, m, b)
			if !bytes.Equal(b, packetOf(3, n)) {
				t.Fatalf("Push changes the %d bytes of its argument", n)
			}
			for i := range b {
				b[i] = 0
			}
			check(t, "the argument changed", r, m)
			copy(b, packetOf(3, n))
		}
		for range 8 {
			clear(b)
			pop(t, "the argument changed", r, m)
		}
	}
	// One memory for all packets, as a caller has who reads them one behind the other.
	r, m, one := &Ring{}, &model{}, make([]byte, 40)
	for i := range 8 {
		copy(one, packetOf(i, 40))
		push(t, "one memory", r, m, one[:i*5])
	}
}

// TestPopIsNew: what Pop returned is the caller's, whatever the ring does later, and the other way round.
func TestPopIsNew(t *testing.T) {
	r, m := mixed(t)
	all, copyOf := r.All(), *r
	before := m.copied()
	var got, want [][]byte
	for i := range 40 {
		b, ok := r.Pop()
		w, is := m.pop()
		if ok != is {
			t.Fatalf("Pop is %v", ok)
		}
		got, want = append(got, b), append(want, slices.Clone(w))
		push(t, "behind Pop", r, m, packetOf(i, 32))
	}
	if !same(got, want) {
		t.Fatalf("what was taken has become %v, not %v", got, want)
	}
	for _, b := range got {
		b = b[:cap(b)]
		for i := range b {
			b[i] = 0xAA
		}
	}
	check(t, "what was taken changed", r, m)
	check(t, "the copy", &copyOf, before)
	if !same(collect(all, -1), before.waiting) {
		t.Error("what was taken and changed is seen by an earlier All")
	}
}

// TestAllIsNew: what All yields is the caller's, each time anew.
func TestAllIsNew(t *testing.T) {
	r, m := mixed(t)
	all := r.All()
	first, second := collect(all, -1), collect(r.All(), -1)
	for b := range all {
		b = b[:cap(b)]
		for i := range b {
			b[i] = 0xAA
		}
	}
	for i, b := range first {
		b = b[:cap(b)]
		for j := range b {
			b[j] = 0xBB
		}
		if !same(first[i+1:], m.waiting[i+1:]) {
			t.Fatalf("two packets share memory: %v", first)
		}
	}
	if !same(second, m.waiting) || !same(collect(all, -1), m.waiting) {
		t.Error("what All yields shares memory with what it yields later")
	}
	check(t, "what All yields changed", r, m)
	for range 5 {
		pop(t, "what All yields changed", r, m)
	}
	for range 20 {
		r.Push(packetOf(5, 32))
		r.Pop()
	}
	if _, before := mixed(t); !same(second, before.waiting) {
		t.Error("what All yielded changes with the ring")
	}
}

// TestOutIsNew: what Out returned is the caller's, and stays as it is when more is put out.
func TestOutIsNew(t *testing.T) {
	r, m := &Ring{}, &model{}
	var outs [][]uint64
	for i := range 40 {
		outs = append(outs, r.Out())
		put(t, "Out", r, m, uint64(i)+5)
	}
	for i, out := range outs {
		if !slices.Equal(out, m.out[:i]) {
			t.Fatalf("Out behind %d numbers has become %v", i, out)
		}
		// What is appended to an answer mustn't come into the ring.
		out = append(out, 1000, 1001)
		for j := range out {
			out[j] = 2000
		}
		check(t, "what Out returned changed", r, m)
	}
	a, b := r.Out(), r.Out()
	clear(a)
	if !slices.Equal(b, m.out) {
		t.Error("two answers of Out share memory")
	}
	put(t, "what Out returned changed", r, m, 3)
}

// TestPut puts out as many numbers as a device takes, and more.
func TestPut(t *testing.T) {
	r, m := mixed(t)
	r.out, m.out = nil, nil
	for i := range 1024 {
		x := numbers[i%len(numbers)] + uint64(i/len(numbers))
		if !r.Put(x) || !m.put(x) {
			t.Fatalf("Put of number %d is false", i)
		}
		if out := r.Out(); len(out) != i+1 || out[i] != x || out[0] != 0 {
			t.Fatalf("behind number %d, Out has %d", i, len(out))
		}
	}
	check(t, "all numbers", r, m)
	for _, x := range numbers {
		for range 2 {
			if r.Put(x) {
				t.Fatalf("Put(%d) of one more is true", x)
			}
			check(t, "one more", r, m)
		}
	}
	// Packets come and go still, and make no room for numbers.
	pop(t, "all numbers", r, m)
	push(t, "all numbers", r, m, []byte{1})
	put(t, "all numbers", r, m, 4)
	if len(r.Out()) != 1024 {
		t.Errorf("Out has %d numbers", len(r.Out()))
	}
}

// TestPutOrder: numbers are given as they came, neither sorted nor once each.
func TestPutOrder(t *testing.T) {
	r, m := &Ring{}, &model{}
	for i := range 3 * len(numbers) {
		put(t, "order", r, m, numbers[(i*7)%len(numbers)])
		put(t, "order", r, m, numbers[len(numbers)-1-i%len(numbers)])
	}
}

// TestPartsApart: packets, lost ones and numbers have nothing to do with one another.
func TestPartsApart(t *testing.T) {
	r, m := &Ring{}, &model{}
	for i := range 20 {
		put(t, "apart", r, m, uint64(i))
		push(t, "apart", r, m, []byte{byte(i)})
	}
	for i := range 20 {
		pop(t, "apart", r, m)
		put(t, "apart", r, m, uint64(i))
	}
	if r.Len() != 0 || r.Lost() != 12 || len(r.Out()) != 40 {
		t.Errorf("Len is %d, Lost is %d, Out has %d", r.Len(), r.Lost(), len(r.Out()))
	}
}

// TestRingsApart: calls on one ring change no other, nor a copy.
func TestRingsApart(t *testing.T) {
	for puts := range 20 {
		a, m := mixed(t)
		for i := range puts {
			put(t, "a", a, m, uint64(i))
		}
		other, n := &Ring{}, &model{}
		b, k := *a, m.copied()
		put(t, "a", a, m, 100)
		put(t, "b", &b, k, 200)
		push(t, "a", a, m, []byte{1})
		push(t, "b", &b, k, []byte{2, 2})
		pop(t, "a", a, m)
		for range 6 {
			push(t, "b", &b, k, []byte{3})
		}
		check(t, "a", a, m)
		check(t, "b", &b, k)
		check(t, "other", other, n)
	}
}

func TestNil(t *testing.T) {
	var r *Ring
	for range 2 {
		for _, n := range lengths {
			b := packetOf(1, n)
			if r.Push(b) || !bytes.Equal(b, packetOf(1, n)) {
				t.Fatalf("Push of %d bytes on nil is true, or changes them", n)
			}
		}
		for _, x := range numbers {
			if r.Put(x) {
				t.Fatalf("Put(%d) on nil is true", x)
			}
		}
		if r.Push(nil) || r.Len() != 0 || r.Lost() != 0 || len(r.Out()) != 0 {
			t.Fatalf("a nil ring has something: Len %d, Lost %d, Out %v", r.Len(), r.Lost(), r.Out())
		}
		if b, ok := r.Pop(); ok || b != nil {
			t.Fatalf("Pop on nil is %v, %v", b, ok)
		}
		for b := range r.All() {
			t.Fatalf("All on nil yields %v", b)
		}
	}
}

// TestAllWays goes all ways of seven calls, each Push with other bytes, from rings in which none to eight packets wait.
func TestAllWays(t *testing.T) {
	for begin := range 9 {
		r, m := &Ring{}, &model{}
		for i := range begin {
			push(t, "beginning", r, m, packetOf(i, 5*i))
		}
		goOn(t, *r, m, 7)
	}
}

func goOn(t *testing.T, r Ring, m *model, left int) {
	t.Helper()
	check(t, "all ways", &r, m)
	if left == 0 {
		return
	}
	next, after := r, m.copied()
	push(t, "all ways", &next, after, packetOf(left, 5*left))
	goOn(t, next, after, left-1)
	next, after = r, m.copied()
	pop(t, "all ways", &next, after)
	goOn(t, next, after, left-1)
	next, after = r, m.copied()
	put(t, "all ways", &next, after, uint64(left))
	goOn(t, next, after, left-1)
}

// TestLongWay goes a long way of mixed calls, whose numbers come from a short rule; it fills and empties the ring in turns.
func TestLongWay(t *testing.T) {
	r, m := &Ring{}, &model{}
	seed := uint32(1)
	draw := func(n int) int {
		seed = seed*1664525 + 1013904223
		return int(seed>>8) % n
	}
	for i := range 60000 {
		pushes := 30 + 40*(i/500%2)
		switch d := draw(100); {
		case d < pushes:
			push(t, "a long way", r, m, packetOf(draw(1000), lengths[draw(12)]))
		case d < 98:
			pop(t, "a long way", r, m)
		default:
			put(t, "a long way", r, m, uint64(draw(1<<20))<<44)
		}
	}
	if r.Lost() < 1000 || len(r.Out()) != 1024 {
		t.Errorf("the way is too short: Lost is %d, Out has %d", r.Lost(), len(r.Out()))
	}
}
