package ticket

import (
	"math"
	"slices"
	"testing"
)

// numbers are some who may want a lock: 0, which is nobody, the edges, and those that differ from others in few bits.
var numbers = []uint64{0, 1, 2, 3, 255, 256, math.MaxInt32, math.MaxUint32, 1 << 32, 1<<32 | 1, math.MaxInt64, 1 << 63, 1<<63 | 1, math.MaxUint64 - 1, math.MaxUint64}

// A model is what a lock should be: the version counts whenever there is another holder than before the call.
type model struct {
	queue   []uint64
	version uint64
}

// holder is who holds the model; 0: nobody.
func (m *model) holder() uint64 {
	if len(m.queue) == 0 {
		return 0
	}
	return m.queue[0]
}

// count counts who has left and who has begun to hold it, where another one held it before.
func (m *model) count(before uint64) {
	now := m.holder()
	if now == before {
		return
	}
	if before != 0 {
		m.version++
	}
	if now != 0 {
		m.version++
	}
}

// join is the chapter's Join.
func (m *model) join(id uint64) {
	before := m.holder()
	if id != 0 && !slices.Contains(m.queue, id) {
		m.queue = append(m.queue, id)
	}
	m.count(before)
}

// leave is the chapter's Leave.
func (m *model) leave(id uint64) {
	before := m.holder()
	var stay []uint64
	for _, x := range m.queue {
		if x != id {
			stay = append(stay, x)
		}
	}
	m.queue = stay
	m.count(before)
}

// copied is a model that the calls on the first one don't change.
func (m *model) copied() *model {
	return &model{slices.Clone(m.queue), m.version}
}

// check holds everything that can be asked of a lock against the model, and against P11.2; twice, as asking changes nothing.
func check(t *testing.T, what string, l *Lock, m *model) {
	t.Helper()
	for range 2 {
		if got := l.Queue(); !slices.Equal(got, m.queue) {
			t.Fatalf("%s: Queue is %v, not %v", what, got, m.queue)
		}
		if got := l.Version(); got != m.version {
			t.Fatalf("%s: Version is %d, not %d", what, got, m.version)
		}
		if got := l.Busy(); got != (len(m.queue) > 0) || got != (l.Version()%2 == 1) {
			t.Fatalf("%s: Busy is %v with the queue %v and the version %d", what, got, m.queue, l.Version())
		}
		for _, ids := range [][]uint64{numbers, m.queue} {
			for _, id := range ids {
				if got, want := l.Holds(id), id != 0 && id == m.holder(); got != want {
					t.Fatalf("%s: Holds(%d) is %v with the queue %v", what, id, got, m.queue)
				}
			}
		}
	}
}

// join and leave do one call on a lock and on its model, and hold them against one another.
func join(t *testing.T, what string, l *Lock, m *model, id uint64) {
	t.Helper()
	l.Join(id)
	m.join(id)
	check(t, what, l, m)
}

func leave(t *testing.T, what string, l *Lock, m *model, id uint64) {
	t.Helper()
	l.Leave(id)
	m.leave(id)
	check(t, what, l, m)
}

// wanted is a lock and its model: 10 holds it, and 11 and so on wait, n in all.
func wanted(t *testing.T, n int) (*Lock, *model) {
	t.Helper()
	l, m := &Lock{}, &model{}
	for i := range n {
		join(t, "wanted", l, m, uint64(10+i))
	}
	return l, m
}

// expect holds a lock against a queue and a version that stand in the test.
func expect(t *testing.T, what string, l *Lock, version uint64, queue ...uint64) {
	t.Helper()
	check(t, what, l, &model{queue, version})
}

// TestZeroValue asks everything of locks that no call made: a variable, new memory, one in another thing, and one that is embedded.
func TestZeroValue(t *testing.T) {
	var a Lock
	var in struct{ lock Lock }
	var embeds struct {
		Lock
		Name uint64
	}
	for _, l := range []*Lock{&a, new(Lock), {}, &in.lock, &embeds.Lock} {
		m := &model{}
		check(t, "zero value", l, m)
		leave(t, "zero value", l, m, 4)
		leave(t, "zero value", l, m, 0)
		join(t, "zero value", l, m, 4)
		join(t, "zero value", l, m, 5)
		leave(t, "zero value", l, m, 4)
	}
	embeds.Leave(5)
	if embeds.Busy() || embeds.Version() != 4 || len(embeds.Queue()) != 0 || embeds.Holds(5) {
		t.Errorf("embedded: %v", embeds)
	}
	var b Lock
	if b.Version() != 0 || b.Busy() || len(b.Queue()) != 0 || b.Holds(0) || b.Holds(1) {
		t.Errorf("the zero value is %v", b)
	}
}

func TestExample(t *testing.T) {
	var l Lock
	l.Join(1)
	l.Join(2)
	l.Leave(1)
	if !l.Holds(2) || l.Holds(1) || l.Version() != 3 || !l.Busy() {
		t.Errorf("Holds(2) is %v, Version is %d", l.Holds(2), l.Version())
	}
}

// TestCalls goes a way of calls with all that is to be seen behind each, worked out by hand.
func TestCalls(t *testing.T) {
	var l Lock
	expect(t, "nobody yet", &l, 0)
	for i, c := range []struct {
		call    func(uint64)
		id      uint64
		version uint64
		queue   []uint64
	}{
		{l.Join, 7, 1, []uint64{7}},
		{l.Join, 7, 1, []uint64{7}},
		{l.Join, 3, 1, []uint64{7, 3}},
		{l.Join, 5, 1, []uint64{7, 3, 5}},
		{l.Join, 3, 1, []uint64{7, 3, 5}},
		{l.Join, 0, 1, []uint64{7, 3, 5}},
		{l.Leave, 0, 1, []uint64{7, 3, 5}},
		{l.Leave, 4, 1, []uint64{7, 3, 5}},
		{l.Leave, 3, 1, []uint64{7, 5}},
		{l.Join, 9, 1, []uint64{7, 5, 9}},
		{l.Leave, 7, 3, []uint64{5, 9}},
		{l.Join, 7, 3, []uint64{5, 9, 7}},
		{l.Leave, 5, 5, []uint64{9, 7}},
		{l.Leave, 7, 5, []uint64{9}},
		{l.Leave, 9, 6, nil},
		{l.Leave, 9, 6, nil},
		{l.Join, 0, 6, nil},
		{l.Join, 9, 7, []uint64{9}},
		{l.Leave, 9, 8, nil},
		{l.Join, 1, 9, []uint64{1}},
	} {
		c.call(c.id)
		if got := l.Queue(); !slices.Equal(got, c.queue) || l.Version() != c.version {
			t.Fatalf("call %d: the queue %v, the version %d, not %v and %d", i, got, l.Version(), c.queue, c.version)
		}
		expect(t, "behind a call", &l, c.version, c.queue...)
	}
}

// TestNobody: 0 is in no queue, holds no lock and leaves none, whoever else wants it.
func TestNobody(t *testing.T) {
	for n := range 5 {
		l, m := wanted(t, n)
		version, queue := l.Version(), l.Queue()
		for range 3 {
			l.Join(0)
			expect(t, "Join(0)", l, version, queue...)
			if l.Holds(0) {
				t.Fatalf("0 holds the lock that %v want", queue)
			}
			l.Leave(0)
			expect(t, "Leave(0)", l, version, queue...)
		}
		for range n {
			leave(t, "behind 0", l, m, m.holder())
			l.Join(0)
			l.Leave(0)
			check(t, "0 once more", l, m)
		}
		if l.Busy() || l.Holds(0) {
			t.Fatalf("0 is left: %v", l.Queue())
		}
	}
}

// TestJoinAgain: who holds the lock or waits for it keeps its one place.
func TestJoinAgain(t *testing.T) {
	for n := 1; n < 7; n++ {
		for i := range n {
			l, m := wanted(t, n)
			queue := l.Queue()
			for range 3 {
				join(t, "again", l, m, uint64(10+i))
				expect(t, "again", l, 1, queue...)
			}
			// Once is enough for it to leave.
			leave(t, "again, and left", l, m, uint64(10+i))
			if slices.Contains(l.Queue(), uint64(10+i)) || len(l.Queue()) != n-1 {
				t.Fatalf("of %d, %d has left: %v", n, 10+i, l.Queue())
			}
		}
	}
	l, m := wanted(t, 5)
	for range 4 {
		for i := range 5 {
			join(t, "all again", l, m, uint64(14-i))
		}
	}
	expect(t, "all again", l, 1, 10, 11, 12, 13, 14)
}

// TestLeaveHolder: the holder leaves, with nobody, with one and with many behind.
func TestLeaveHolder(t *testing.T) {
	for behind := range 40 {
		l, m := wanted(t, behind+1)
		queue := l.Queue()
		if !l.Holds(10) || l.Version() != 1 {
			t.Fatalf("with %d behind, Holds(10) is %v, Version is %d", behind, l.Holds(10), l.Version())
		}
		leave(t, "the holder left", l, m, 10)
		if behind == 0 {
			expect(t, "nobody behind", l, 2)
			continue
		}
		expect(t, "the next one holds it", l, 3, queue[1:]...)
		if l.Holds(10) || !l.Holds(11) {
			t.Fatalf("with %d behind, Holds(10) is %v, Holds(11) is %v", behind, l.Holds(10), l.Holds(11))
		}
	}
}

// TestLeaveWaiter: one in the middle or at the end leaves; the holder, the version and the others' order stay.
func TestLeaveWaiter(t *testing.T) {
	for n := 2; n < 9; n++ {
		for i := 1; i < n; i++ {
			l, m := wanted(t, n)
			queue := l.Queue()
			leave(t, "a waiter left", l, m, queue[i])
			expect(t, "a waiter left", l, 1, slices.Delete(slices.Clone(queue), i, i+1)...)
			if !l.Holds(10) || l.Holds(queue[i]) {
				t.Fatalf("of %d, waiter %d left: Holds(10) is %v", n, i, l.Holds(10))
			}
			for range n {
				leave(t, "behind a waiter who left", l, m, m.holder())
			}
			if l.Version() != uint64(2*(n-1)) {
				t.Fatalf("of %d, waiter %d left, and all others: Version is %d", n, i, l.Version())
			}
		}
	}
}

// TestLeaveAll lets four leave in every order.
func TestLeaveAll(t *testing.T) {
	var orders [][]uint64
	var extend func(order []uint64)
	extend = func(order []uint64) {
		if len(order) == 4 {
			orders = append(orders, order)
			return
		}
		for id := uint64(10); id < 14; id++ {
			if !slices.Contains(order, id) {
				extend(append(slices.Clone(order), id))
			}
		}
	}
	extend(nil)
	for _, order := range orders {
		l, m := wanted(t, 4)
		for _, id := range order {
			leave(t, "all leave", l, m, id)
			leave(t, "left twice", l, m, id)
		}
		// Each who came to be the first counts twice: a holder, and gone.
		held := 0
		for i := range order {
			if !slices.ContainsFunc(order[i:], func(id uint64) bool { return id < order[i] }) {
				held++
			}
		}
		if l.Busy() || l.Version() != uint64(2*held) {
			t.Fatalf("left in the order %v: %v, Version is %d", order, l.Queue(), l.Version())
		}
	}
	if len(orders) != 24 {
		t.Errorf("%d orders", len(orders))
	}
}

// TestLeaveStranger: who isn't in the queue, or is no more, changes nothing by leaving.
func TestLeaveStranger(t *testing.T) {
	for n := range 6 {
		l, m := wanted(t, n+2)
		leave(t, "one more", l, m, 11)
		leave(t, "one more", l, m, 10)
		version, queue := l.Version(), l.Queue()
		for _, id := range append([]uint64{9, 10, 11, uint64(12 + n), 10 + 1<<32, 12 + 1<<32, 12 + 1<<63}, numbers...) {
			for range 2 {
				leave(t, "a stranger", l, m, id)
				expect(t, "a stranger", l, version, queue...)
			}
		}
	}
}

// TestLeaveFree: nobody wants the lock, from the beginning or no more.
func TestLeaveFree(t *testing.T) {
	l, m := &Lock{}, &model{}
	for round := range 10 {
		for _, id := range numbers {
			leave(t, "nobody wants it", l, m, id)
			expect(t, "nobody wants it", l, uint64(2*round))
		}
		join(t, "wanted once", l, m, 10)
		expect(t, "wanted once", l, uint64(2*round+1), 10)
		leave(t, "wanted once", l, m, 10)
	}
}

// TestInOrder: of many who come, each holds the lock in its turn, and nobody else meanwhile.
func TestInOrder(t *testing.T) {
	const many = 300
	id := func(i int) uint64 { return uint64(i)*0x9E3779B97F4A7C15 + 1 }
	l, m := &Lock{}, &model{}
	for i := range many {
		join(t, "many come", l, m, id(i))
	}
	for i := range many {
		if !l.Holds(id(i)) || l.Version() != uint64(2*i+1) || len(l.Queue()) != many-i {
			t.Fatalf("turn %d: Queue is %v, Version is %d", i, l.Queue(), l.Version())
		}
		leave(t, "many leave", l, m, id(i))
	}
	expect(t, "all have left", l, 2*many)
}

// TestComeAndGo lets one come and the holder go, many times, with each number of others waiting meanwhile.
func TestComeAndGo(t *testing.T) {
	for waiting := range 8 {
		l, m := &Lock{}, &model{}
		for i := range waiting {
			join(t, "the first ones", l, m, uint64(i+1))
		}
		for i := range 200 {
			join(t, "one comes", l, m, uint64(waiting+i+1))
			if !l.Holds(uint64(i+1)) || l.Version() != uint64(2*i+1) {
				t.Fatalf("turn %d with %d waiting: Queue is %v, Version is %d", i, waiting, l.Queue(), l.Version())
			}
			leave(t, "the holder goes", l, m, uint64(i+1))
		}
		if len(l.Queue()) != waiting {
			t.Fatalf("%d are left, not %d", len(l.Queue()), waiting)
		}
	}
}

// TestOutOfTurn: of many, some go while they wait; the others hold the lock in the order in which they came.
func TestOutOfTurn(t *testing.T) {
	for step := 2; step < 8; step++ {
		l, m := wanted(t, 60)
		var stay []uint64
		for i, id := range l.Queue() {
			if i%step == 1 {
				leave(t, "out of turn", l, m, id)
				continue
			}
			stay = append(stay, id)
		}
		for i, id := range stay {
			if !l.Holds(id) || l.Version() != uint64(2*i+1) {
				t.Fatalf("turn %d: Queue is %v, Version is %d", i, l.Queue(), l.Version())
			}
			leave(t, "in turn", l, m, id)
		}
		expect(t, "all have left", l, uint64(2*len(stay)))
	}
}

// TestComeAgain: who leaves and comes again stands behind all others.
func TestComeAgain(t *testing.T) {
	for n := 1; n < 8; n++ {
		for i := range n {
			l, m := wanted(t, n)
			queue := l.Queue()
			id := queue[i]
			leave(t, "leaves", l, m, id)
			join(t, "comes again", l, m, id)
			want := append(slices.Delete(slices.Clone(queue), i, i+1), id)
			version := uint64(1)
			if i == 0 {
				version = 3
			}
			expect(t, "came again", l, version, want...)
			for range n {
				if !l.Holds(want[0]) {
					t.Fatalf("Queue is %v, not %v", l.Queue(), want)
				}
				leave(t, "in turn", l, m, want[0])
				want = want[1:]
			}
		}
	}
	// In turns, all of them again and again.
	l, _ := wanted(t, 5)
	for i := range 100 {
		id := uint64(10 + i%5)
		if !l.Holds(id) || l.Version() != uint64(2*i+1) {
			t.Fatalf("turn %d: Queue is %v, Version is %d", i, l.Queue(), l.Version())
		}
		l.Leave(id)
		l.Join(id)
	}
	expect(t, "in turns", l, 201, 10, 11, 12, 13, 14)
}

// TestAlone: one who comes and goes alone holds the lock at once each time.
func TestAlone(t *testing.T) {
	for _, id := range numbers[1:] {
		l, m := &Lock{}, &model{}
		for i := range uint64(20) {
			join(t, "alone", l, m, id)
			expect(t, "alone", l, 2*i+1, id)
			leave(t, "alone", l, m, id)
			expect(t, "alone and gone", l, 2*i+2)
		}
	}
}

// TestNumbers: any number but 0 wants a lock as any other, and is told from all others.
func TestNumbers(t *testing.T) {
	for shift := range numbers {
		ids := append(slices.Clone(numbers[shift:]), numbers[:shift]...)
		l, m := &Lock{}, &model{}
		for _, id := range ids {
			join(t, "all numbers", l, m, id)
		}
		all := slices.DeleteFunc(ids, func(id uint64) bool { return id == 0 })
		expect(t, "all numbers", l, 1, all...)
		for _, id := range []uint64{math.MaxUint64, all[3], 1 << 63, math.MaxUint64 - 1, all[1]} {
			leave(t, "some leave", l, m, id)
		}
		for l.Busy() {
			leave(t, "the others leave", l, m, m.holder())
		}
	}
	var l Lock
	l.Join(math.MaxUint64)
	l.Join(math.MaxUint64 - 1)
	l.Join(1 << 63)
	l.Leave(math.MaxUint64)
	expect(t, "the greatest", &l, 3, math.MaxUint64-1, 1<<63)
}

// TestQueueIsNew: what Queue returned is the caller's, whatever it makes of it, and stays as it is, whoever comes and goes.
func TestQueueIsNew(t *testing.T) {
	l, m := &Lock{}, &model{}
	var got, want [][]uint64
	keep := func() {
		got, want = append(got, l.Queue()), append(want, slices.Clone(m.queue))
	}
	for i := range uint64(40) {
		keep()
		join(t, "Queue", l, m, i+1)
		keep()
		switch i % 4 {
		case 1:
			leave(t, "Queue", l, m, m.holder())
		case 3:
			leave(t, "Queue", l, m, m.queue[len(m.queue)/2])
			keep()
			leave(t, "Queue", l, m, m.queue[len(m.queue)-1])
		}
	}
	for i := range got {
		if !slices.Equal(got[i], want[i]) {
			t.Fatalf("Queue has become %v, not %v", got[i], want[i])
		}
	}
	for i, queue := range got {
		// What is appended to an answer mustn't come into the lock.
		queue = append(queue, 1000, 1001)
		queue = queue[:cap(queue)]
		for j := range queue {
			queue[j] = 2000
		}
		whole := got[i][:cap(got[i])]
		for j := range whole {
			whole[j] = 3000
		}
		check(t, "what Queue returned changed", l, m)
	}
	a, b := l.Queue(), l.Queue()
	clear(a)
	if !slices.Equal(b, m.queue) {
		t.Error("two answers of Queue share memory")
	}
	join(t, "what Queue returned changed", l, m, 500)
	leave(t, "what Queue returned changed", l, m, m.holder())
	if len(b) != len(m.queue) || slices.Contains(b, 500) {
		t.Errorf("an earlier answer of Queue has become %v", b)
	}
}

// TestQueueChangedAtOnce changes an answer of each length, the holder's place, the last one and what lies behind, ahead of every next call.
func TestQueueChangedAtOnce(t *testing.T) {
	for n := range 20 {
		l, m := wanted(t, n)
		for i := range n + 2 {
			queue := l.Queue()
			queue = queue[:cap(queue)]
			for j := range queue {
				queue[j] = 0
			}
			check(t, "cleared", l, m)
			join(t, "cleared", l, m, uint64(10+n+i))
			clear(queue)
			leave(t, "cleared", l, m, m.holder())
		}
	}
}

// TestNothingStays: no call tells it, but a lock keeps nobody who has left.
func TestNothingStays(t *testing.T) {
	for n := range 20 {
		l, m := wanted(t, n)
		for l.Busy() {
			leave(t, "one leaves", l, m, m.queue[len(m.queue)/2])
			for _, id := range l.queue[len(l.queue):cap(l.queue)] {
				if id != 0 {
					t.Fatalf("%d has left, and stays behind %v", id, l.queue)
				}
			}
		}
		if cap(l.queue) != 0 {
			t.Fatalf("of %d who left, room for %d stays", n, cap(l.queue))
		}
	}
}

// TestApart: locks have nothing in common, nor has a copy with the lock that it is of.
func TestApart(t *testing.T) {
	l, m := wanted(t, 3)
	other, free := &Lock{}, &model{}
	check(t, "the other one", other, free)
	join(t, "the other one", other, free, 11)
	join(t, "the other one", other, free, 10)
	check(t, "the first one", l, m)
	leave(t, "the other one", other, free, 11)
	check(t, "the first one", l, m)
	for n := range 10 {
		l, m := wanted(t, n)
		a, b := *l, *l
		am, bm := m.copied(), m.copied()
		join(t, "a copy", &a, am, 70)
		join(t, "another copy", &b, bm, 80)
		check(t, "a copy", &a, am)
		leave(t, "a copy", &a, am, 10)
		check(t, "another copy", &b, bm)
		leave(t, "another copy", &b, bm, uint64(10+n/2))
		check(t, "a copy", &a, am)
		check(t, "the first one", l, m)
		join(t, "the first one", l, m, 90)
		check(t, "a copy", &a, am)
		check(t, "another copy", &b, bm)
	}
}

// TestNil: what a nil lock answers is left open, but it answers.
func TestNil(t *testing.T) {
	var l *Lock
	for _, id := range numbers {
		l.Join(id)
		l.Leave(id)
		l.Join(id)
		if l.Holds(id) || l.Busy() || l.Version() != 0 || len(l.Queue()) != 0 {
			t.Fatalf("nil is held by %v", l.Queue())
		}
	}
}

// TestAllWays goes all ways of six calls: Join and Leave of four numbers, one of which is 0.
func TestAllWays(t *testing.T) {
	goOn(t, Lock{}, &model{}, 6)
}

func goOn(t *testing.T, l Lock, m *model, left int) {
	check(t, "all ways", &l, m)
	if left == 0 {
		return
	}
	for _, id := range []uint64{0, 1, 2, math.MaxUint64} {
		next, then := l, m.copied()
		next.Join(id)
		then.join(id)
		goOn(t, next, then, left-1)
		next, then = l, m.copied()
		next.Leave(id)
		then.leave(id)
		goOn(t, next, then, left-1)
	}
}

// TestLongWay goes a long way of mixed calls, whose numbers come from a short rule; more come and more go in turns.
func TestLongWay(t *testing.T) {
	l, m := &Lock{}, &model{}
	seed := uint32(1)
	draw := func(n int) int {
		seed = seed*1664525 + 1013904223
		return int(seed>>8) % n
	}
	most := 0
	for i := range 60000 {
		joins := 30 + 40*(i/1000%2)
		id := uint64(draw(40)) * 0x0666666666666666
		switch d := draw(100); {
		case d < joins:
			join(t, "a long way", l, m, id)
		case d < 90:
			leave(t, "a long way", l, m, id)
		default:
			leave(t, "a long way", l, m, m.holder())
		}
		most = max(most, len(m.queue))
	}
	if m.version < 10000 || most < 25 {
		t.Errorf("the way is too short: Version is %d, at most %d want it", m.version, most)
	}
}
