package slots

import (
	"fmt"
	"math"
	"slices"
	"testing"

	"glacis/api"
)

const (
	most    = 8  // slots of a table
	longest = 16 // ticks of a slot
)

// lengths are numbers of ticks that a slot may have, and wrong are some that it may not: those about the edges, those that look right in fewer bits, and the extremes.
var (
	lengths = []int{1, 2, 3, 7, 8, 15, 16}
	wrong   = []int{
		math.MinInt, math.MinInt + 1, math.MinInt + 16, math.MinInt32, -1<<32 + 1, -1 << 32, -256 + 1, -17, -16, -15, -8, -2, -1, 0,
		17, 18, 31, 32, 33, 255, 256, 257, 272, 1<<16 + 1, math.MaxInt32, 1 << 32, 1<<32 + 1, 1<<32 + 16, math.MaxInt - 1, math.MaxInt,
	}
	conts = []uint64{0, 1, 2, 64, 1 << 22, 1 << 32, 1<<63 - 1, 1 << 63, math.MaxUint64}
)

// nobody and sharers are numbers of those that share a slot: below 1, and the others.
var (
	nobody  = []int{math.MinInt, math.MinInt + 1, math.MinInt32, -1<<32 + 1, -1 << 32, -17, -8, -3, -2, -1, 0}
	sharers = []int{
		1, 2, 3, 4, 5, 6, 7, 8, 9, 10, 13, 16, 17, 64, 65, 68, 100, 127, 128, 255, 256, 257, 1<<16 - 1, 1 << 16, 1<<16 + 1,
		math.MaxInt32 - 1, math.MaxInt32, 1 << 31, 1<<32 - 1, 1 << 32, 1<<32 + 1, 1<<32 + 2, 1<<62 + 1, math.MaxInt - 1, math.MaxInt,
	}
)

// A model is what a clock should be, by its ticks alone: where each slot ends, in ticks since the first one began.
type model struct {
	ends  []int
	now   int
	turns []int
}

func modelOf(l []api.Slot) *model {
	m := &model{turns: make([]int, len(l))}
	end := 0
	for _, s := range l {
		end += s.Ticks
		m.ends = append(m.ends, end)
	}
	return m
}

// at is how many ticks there were since the first slot began last.
func (m *model) at() int { return m.now % m.ends[len(m.ends)-1] }

func (m *model) slot() int {
	n := 0
	for m.ends[n] <= m.at() {
		n++
	}
	return n
}

func (m *model) left() int { return m.ends[m.slot()] - m.at() }

// tick is true where a slot ended just now.
func (m *model) tick() bool {
	m.now++
	return m.at() == 0 || slices.Contains(m.ends, m.at())
}

func (m *model) next() { m.turns[m.slot()]++ }

func (m *model) turn(n int) int {
	if n < 1 {
		return -1
	}
	return m.turns[m.slot()] % n
}

// copied is a model that has nothing in common with this one.
func (m *model) copied() *model {
	return &model{slices.Clone(m.ends), m.now, slices.Clone(m.turns)}
}

// table is slots of some numbers of ticks, each of a container of its own.
func table(ticks ...int) []api.Slot {
	var l []api.Slot
	for i, n := range ticks {
		l = append(l, api.Slot{Cont: uint64(i) + 1, Ticks: n})
	}
	return l
}

// same is a table of n slots of one number of ticks.
func same(n, ticks int) []api.Slot {
	return table(slices.Repeat([]int{ticks}, n)...)
}

// told holds all that a clock answers against the model.
func told(t *testing.T, what string, c *Clock, m *model) {
	t.Helper()
	if c.Slot() != m.slot() || c.Now() != uint64(m.now) {
		t.Fatalf("%s: slot %d after %d ticks, not %d after %d", what, c.Slot(), c.Now(), m.slot(), m.now)
	}
	for _, n := range nobody {
		if got := c.Turn(n); got != -1 {
			t.Fatalf("%s: Turn(%d) is %d", what, n, got)
		}
	}
	for _, n := range sharers {
		if got := c.Turn(n); got != m.turn(n) || got < 0 || got >= n {
			t.Fatalf("%s: Turn(%d) is %d after %v turns, not %d", what, n, got, m.turns, m.turn(n))
		}
	}
}

// check holds all that a clock answers against the model, and then, by a copy of the clock, how many ticks remain.
func check(t *testing.T, what string, c *Clock, m *model, l []api.Slot) {
	t.Helper()
	told(t, what, c, m)
	ahead := *c
	for left := m.left(); left > 0; left-- {
		if ahead.Tick(l) != (left == 1) {
			t.Fatalf("%s: after %d ticks of %v a Tick is %v with %d ticks remaining", what, m.now, l, left != 1, left)
		}
	}
	told(t, what+", asked again", c, m)
}

func tick(t *testing.T, what string, c *Clock, m *model, l []api.Slot) bool {
	t.Helper()
	want := m.tick()
	if got := c.Tick(l); got != want {
		t.Fatalf("%s: tick %d of %v is %v, not %v", what, m.now, l, got, want)
	}
	return want
}

func next(c *Clock, m *model) {
	c.Next()
	m.next()
}

// draw is a number below n, by a fixed rule.
func draw(r *uint64, n int) int {
	*r = *r*6364136223846793005 + 1442695040888963407
	return int(*r >> 33 % uint64(n))
}

func one(r *uint64, l []int) int { return l[draw(r, len(l))] }

// drawn is a table of 1 to 8 slots, with containers of all kinds; every other one has slots of few ticks.
func drawn(r *uint64) []api.Slot {
	l := make([]api.Slot, 1+draw(r, most))
	bound := longest
	if draw(r, 2) == 0 {
		bound = 1 + draw(r, 3)
	}
	for i := range l {
		l[i] = api.Slot{Cont: conts[draw(r, len(conts))], Ticks: 1 + draw(r, bound)}
	}
	return l
}

// canaries stand in memory that no call may read, or change: some would be slots, others not.
var canaries = []api.Slot{{Cont: 0xDEAD, Ticks: 3}, {Cont: 0xDEAD, Ticks: 0}, {Cont: 0xDEAD, Ticks: math.MinInt}, {Cont: 0xDEAD, Ticks: 16}}

// A guarded list has room behind its end, and canaries around it.
type guarded struct {
	l        []api.Slot
	all, was []api.Slot
}

func guard(l []api.Slot, canary api.Slot) guarded {
	all := slices.Concat([]api.Slot{canary}, l, slices.Repeat([]api.Slot{canary}, most+2))
	return guarded{all[1 : 1+len(l) : len(all)-1], all, slices.Clone(all)}
}

func (g guarded) whole(t *testing.T, what string) {
	t.Helper()
	if !slices.Equal(g.all, g.was) {
		t.Fatalf("%s: the memory of the table is %v, was %v", what, g.all, g.was)
	}
}

// spoil writes to all the memory of a list.
func (g guarded) spoil() {
	for i := range g.all {
		g.all[i] = api.Slot{Cont: 99, Ticks: 5}
	}
}

// right asks Right of a list, wherever it lies, and whatever is behind it.
func right(t *testing.T, l []api.Slot, want bool) {
	t.Helper()
	for _, canary := range canaries {
		g := guard(l, canary)
		if got := Right(g.l); got != want {
			t.Fatalf("Right of %d slots, %v, is %v", len(l), l, got)
		}
		g.whole(t, "Right")
	}
	if Right(l) != want || Right(slices.Clip(l)) != want {
		t.Fatalf("Right of %v is not always %v", l, want)
	}
}

// TestRightLengths asks for lists of all lengths about the edges, whose slots are right each by itself.
func TestRightLengths(t *testing.T) {
	right(t, nil, false)
	right(t, []api.Slot{}, false)
	right(t, same(most, 1)[:0], false)
	for n := range 40 {
		for _, ticks := range lengths {
			right(t, same(n, ticks), n >= 1 && n <= most)
		}
	}
	for _, n := range []int{255, 256, 257, 258, 264, 265, 1<<16 + 1, 1<<16 + 8} {
		if Right(same(n, 1)) || Right(same(n, longest)) {
			t.Fatalf("%d slots are a table", n)
		}
	}
}

// TestRightTicks puts every number of ticks in each place of tables of all lengths, alone and in two places.
func TestRightTicks(t *testing.T) {
	for n := 1; n <= most+1; n++ {
		for place := range n {
			for _, rest := range []int{1, 9, longest} {
				l := same(n, rest)
				for _, ticks := range lengths {
					l[place].Ticks = ticks
					right(t, l, n <= most)
				}
				for _, ticks := range wrong {
					l[place].Ticks = ticks
					right(t, l, false)
				}
				other := (place + 1) % n
				for _, ticks := range []int{math.MinInt, -1, 0, 17, math.MaxInt} {
					// Two that are wrong in opposite ways don't make up for one another.
					l[other].Ticks, l[place].Ticks = -ticks, ticks
					right(t, l, false)
				}
			}
		}
	}
}

// TestRightAll asks for all tables of one, two and three slots whose ticks are about the edges.
func TestRightAll(t *testing.T) {
	may := func(n int) bool { return n >= 1 && n <= longest }
	for a := -2; a <= 19; a++ {
		right(t, table(a), may(a))
		for b := -2; b <= 19; b++ {
			right(t, table(a, b), may(a) && may(b))
			for c := -2; c <= 19; c++ {
				right(t, table(a, b, c), may(a) && may(b) && may(c))
			}
		}
	}
}

// TestRightConts shows that containers don't matter: any numbers may stand there, twice too.
func TestRightConts(t *testing.T) {
	for n := 1; n <= most; n++ {
		for place := range n {
			for _, cont := range conts {
				l := same(n, 4)
				l[place].Cont = cont
				right(t, l, true)
				l[place].Ticks = 0
				right(t, l, false)
				l[place].Ticks = longest + 1
				right(t, l, false)
			}
		}
	}
	for _, cont := range conts {
		right(t, slices.Repeat([]api.Slot{{Cont: cont, Ticks: 2}}, most), true)
		right(t, slices.Repeat([]api.Slot{{Cont: cont}}, most), false)
	}
}

// TestByHand holds ways that are written out: the slot after each tick, and where Tick is true ('T').
func TestByHand(t *testing.T) {
	for _, w := range []struct {
		ticks        []int
		slots, begin string
	}{
		{[]int{1, 2}, "110110110", "T.TT.TT.T"},
		{[]int{2, 1}, "010010010", ".TT.TT.TT"},
		{[]int{1}, "0000", "TTTT"},
		{[]int{2}, "00000", ".T.T."},
		{[]int{3}, "0000000", "..T..T."},
		{[]int{1, 1}, "10101", "TTTTT"},
		{[]int{1, 1, 1}, "1201201", "TTTTTTT"},
		{[]int{2, 2}, "011001100", ".T.T.T.T."},
		{[]int{3, 1, 2}, "00122000122000", "..TT.T..TT.T.."},
		{[]int{1, 4}, "1111011110", "T...TT...T"},
		{[]int{4, 1}, "0001000010", "...TT...TT"},
		{[]int{1, 1, 1, 1, 1, 1, 1, 1}, "123456701234567012", "TTTTTTTTTTTTTTTTTT"},
		{[]int{1, 2, 3, 1, 1, 2, 1, 1}, "112223455670112", "T.T..TTT.TTTT.T"},
		{[]int{16}, "00000000000000000000000000000000", "...............T...............T"},
		{[]int{16, 1}, "000000000000000100000000000000001", "...............TT...............T"},
		{[]int{15, 16}, "00000000000000111111111111111100", "..............T...............T."},
	} {
		l := table(w.ticks...)
		c := New(l)
		if !Right(l) || c.Slot() != 0 || c.Now() != 0 {
			t.Fatalf("%v begins in slot %d at %d", w.ticks, c.Slot(), c.Now())
		}
		for i := range w.slots {
			begins := c.Tick(l)
			if begins != (w.begin[i] == 'T') || c.Slot() != int(w.slots[i]-'0') || c.Now() != uint64(i)+1 {
				t.Fatalf("tick %d of %v: %v, slot %d at %d", i+1, w.ticks, begins, c.Slot(), c.Now())
			}
		}
	}
}

// TestTurnsByHand goes a way that is written out: 't' is a tick, 'n' a turn; the numbers are whose turn it is of three then.
func TestTurnsByHand(t *testing.T) {
	for _, w := range []struct {
		ticks     []int
		way, turn string
	}{
		{[]int{1}, "nnnntntt", "12011222"},
		{[]int{2}, "nttnntntt", "111200111"},
		{[]int{1, 1}, "ntnntntnnttt", "101212201212"},
		{[]int{1, 2}, "ntttntnttnttnttnt", "10012011201120200"},
		{[]int{1, 1, 1}, "tntnnttntttt", "010120122022"},
	} {
		l := table(w.ticks...)
		c := New(l)
		var got []byte
		for _, call := range w.way {
			if call == 't' {
				c.Tick(l)
			} else {
				c.Next()
			}
			got = append(got, '0'+byte(c.Turn(3)))
		}
		if string(got) != w.turn {
			t.Errorf("%v, %s: the turns of three are %s, not %s", w.ticks, w.way, got, w.turn)
		}
	}
}

// go10 goes all ways of ten calls of Tick and Next from the beginning of a table.
func go10(t *testing.T, l []api.Slot) {
	t.Helper()
	const calls = 10
	for way := range 1 << calls {
		c, m := New(l), modelOf(l)
		for i := range calls {
			if way>>i&1 == 0 {
				tick(t, "a way of ten", &c, m, l)
			} else {
				next(&c, m)
			}
		}
		check(t, "a way of ten", &c, m, l)
	}
}

// TestAllWays goes all ways of ten calls through all tables of up to three slots of up to three ticks, and some of more.
func TestAllWays(t *testing.T) {
	for a := 1; a <= 3; a++ {
		go10(t, table(a))
		for b := 1; b <= 3; b++ {
			go10(t, table(a, b))
			for c := 1; c <= 3; c++ {
				go10(t, table(a, b, c))
			}
		}
	}
	for n := 4; n <= most; n++ {
		go10(t, same(n, 1))
	}
	for _, l := range [][]api.Slot{table(4), table(5), table(9), table(10), table(1, 4, 1, 4), table(8, 1), table(1, 8), table(2, 1, 1, 2, 1)} {
		go10(t, l)
	}
}

// TestEveryTick goes three times through tables of all lengths, and asks for everything after each tick.
func TestEveryTick(t *testing.T) {
	var tables [][]api.Slot
	for n := 1; n <= most; n++ {
		for ticks := 1; ticks <= longest; ticks++ {
			tables = append(tables, same(n, ticks))
		}
		// Each place, once, has more or fewer ticks than the others.
		for place := range n {
			for _, other := range []int{1, 2, longest - 1, longest} {
				l := same(n, 3)
				l[place].Ticks = other
				tables = append(tables, l)
			}
		}
	}
	tables = append(tables, table(1, 2, 3, 4, 5, 6, 7, 8), table(16, 15, 14, 13, 12, 11, 10, 9), table(16, 1, 16, 1, 16, 1, 16, 1), table(1, 16, 1, 16, 1, 16, 1, 16))
	for _, l := range tables {
		c, m := New(l), modelOf(l)
		begun, period := 0, m.ends[len(l)-1]
		for range 3 * period {
			check(t, "every tick", &c, m, l)
			if tick(t, "every tick", &c, m, l) {
				begun++
			}
		}
		check(t, "every tick", &c, m, l)
		if begun != 3*len(l) || c.Slot() != 0 {
			t.Fatalf("%v: %d slots began in three times through, and it is %d", l, begun, c.Slot())
		}
	}
}

// TestDrawnWays goes long ways through drawn tables, in memory that is guarded, and asks for everything after each call.
func TestDrawnWays(t *testing.T) {
	r := uint64(17)
	seen := [most + 1]int{}
	for range 600 {
		g := guard(drawn(&r), canaries[draw(&r, len(canaries))])
		what := fmt.Sprintf("drawn table %v", g.l)
		if !Right(g.l) {
			t.Fatalf("%s is none", what)
		}
		c, m := New(g.l), modelOf(g.l)
		seen[len(g.l)]++
		ticks := 1 + draw(&r, 9)
		for range 400 {
			if draw(&r, 10) < ticks {
				tick(t, what, &c, m, g.l)
			} else {
				next(&c, m)
			}
			told(t, what, &c, m)
		}
		check(t, what, &c, m, g.l)
		g.whole(t, what)
	}
	if slices.Contains(seen[1:], 0) {
		t.Fatalf("of some lengths no table was drawn: %v", seen)
	}
}

// TestTurnsOfSlots gives each slot a number of turns of its own, and finds it again time and again.
func TestTurnsOfSlots(t *testing.T) {
	for n := 1; n <= most; n++ {
		for _, ticks := range []int{1, 2, longest} {
			l := same(n, ticks)
			c, m := New(l), modelOf(l)
			for round := range 4 {
				for slot := range n {
					if got := c.Turn(math.MaxInt); c.Slot() != slot || got != round*(slot+5) {
						t.Fatalf("slot %d of %d in round %d: it is slot %d, with %d turns", slot, n, round, c.Slot(), got)
					}
					for range slot + 5 {
						next(&c, m)
					}
					for range ticks {
						check(t, "turns of slots", &c, m, l)
						tick(t, "turns of slots", &c, m, l)
					}
				}
			}
		}
	}
}

// TestEachHasATurn counts, in as many turns of a slot as share it, a turn for each, in order, also where the slot goes in between.
func TestEachHasATurn(t *testing.T) {
	for _, l := range [][]api.Slot{table(1), table(16), table(2, 1), table(3, 2, 1), same(8, 2)} {
		for share := 1; share <= 70; share++ {
			c := New(l)
			for range 3 * len(l) {
				c.Next()
				c.Tick(l)
			}
			last := -1
			slot := c.Slot()
			for round := range 3 {
				had := make([]int, share)
				for range share {
					now := c.Turn(share)
					if last >= 0 && now != (last+1)%share {
						t.Fatalf("of %d that share slot %d of %v it is turn %d after %d", share, slot, l, now, last)
					}
					had[now]++
					last = now
					c.Next()
					for c.Tick(l); c.Slot() != slot; c.Tick(l) {
						c.Next()
					}
				}
				if slices.Min(had) != 1 || slices.Max(had) != 1 {
					t.Fatalf("round %d of %d that share slot %d of %v: the turns are %v", round, share, slot, l, had)
				}
			}
		}
	}
}

// TestChangingShare asks for turns of changing numbers of those that share the slot: each answer hangs on the count of turns alone.
func TestChangingShare(t *testing.T) {
	l := table(1, 3)
	c := New(l)
	for turns := range 300 {
		for share := 1; share <= 80; share++ {
			if got := c.Turn(share); got != turns%share {
				t.Fatalf("after %d turns of %d it is turn %d", turns, share, got)
			}
		}
		c.Next()
	}
}

// TestTicksAlone goes by pairs of clocks with the same ticks, of which one has turns, too.
func TestTicksAlone(t *testing.T) {
	r := uint64(4)
	for range 300 {
		l := drawn(&r)
		plain, busy := New(l), New(l)
		for range 200 {
			for range draw(&r, 4) {
				busy.Next()
			}
			if plain.Slot() != busy.Slot() || plain.Now() != busy.Now() || plain.Tick(l) != busy.Tick(l) {
				t.Fatalf("%v: slot %d at %d, and with turns slot %d at %d", l, plain.Slot(), plain.Now(), busy.Slot(), busy.Now())
			}
			for _, n := range sharers {
				if plain.Turn(n) != 0 {
					t.Fatalf("%v: Turn(%d) is %d without a turn", l, n, plain.Turn(n))
				}
			}
		}
	}
}

// TestAskingChangesNothing goes by pairs of clocks of which one is asked, and the other not.
func TestAskingChangesNothing(t *testing.T) {
	r := uint64(5)
	for range 100 {
		l := drawn(&r)
		still, asked := New(l), New(l)
		for range 200 {
			for range draw(&r, 5) {
				asked.Turn(one(&r, sharers))
				asked.Turn(one(&r, nobody))
				asked.Slot()
				asked.Now()
				Right(l)
			}
			if draw(&r, 2) == 0 {
				still.Next()
				asked.Next()
			} else if still.Tick(l) != asked.Tick(l) {
				t.Fatalf("%v: the ticks at %d are not the same", l, still.Now())
			}
			if still.Slot() != asked.Slot() || still.Now() != asked.Now() || still.Turn(math.MaxInt) != asked.Turn(math.MaxInt) {
				t.Fatalf("%v: %v, and asked %v", l, still, asked)
			}
		}
	}
}

// TestClocksApart moves five clocks of one table, and copies of them, in drawn orders: each is as if it were alone.
func TestClocksApart(t *testing.T) {
	r := uint64(6)
	for range 150 {
		l := drawn(&r)
		var clocks [5]Clock
		var models [5]*model
		for i := range clocks {
			clocks[i], models[i] = New(l), modelOf(l)
		}
		for range 300 {
			i, j := draw(&r, 5), draw(&r, 5)
			switch draw(&r, 12) {
			case 0:
				clocks[i], models[i] = New(l), modelOf(l)
			case 1:
				clocks[i], models[i] = clocks[j], models[j].copied()
			case 2, 3, 4, 5:
				next(&clocks[i], models[i])
			default:
				tick(t, "clocks apart", &clocks[i], models[i], l)
			}
			told(t, "clocks apart, the one", &clocks[i], models[i])
			told(t, "clocks apart, another", &clocks[j], models[j])
		}
		for i := range clocks {
			check(t, "clocks apart, at the end", &clocks[i], models[i], l)
		}
	}
}

// TestTwoTables moves clocks of two tables by turns.
func TestTwoTables(t *testing.T) {
	r := uint64(7)
	for range 200 {
		a, b := drawn(&r), drawn(&r)
		c, d := New(a), New(b)
		cm, dm := modelOf(a), modelOf(b)
		for range 150 {
			if draw(&r, 3) == 0 {
				next(&c, cm)
			}
			if draw(&r, 4) > 0 {
				tick(t, "the one table", &c, cm, a)
			}
			if draw(&r, 4) == 0 {
				next(&d, dm)
			}
			tick(t, "the other table", &d, dm, b)
			told(t, "the one table", &c, cm)
			told(t, "the other table", &d, dm)
		}
	}
}

// TestTableNotKept gives each call the table in memory of its own, which holds another table at once when the call has answered.
func TestTableNotKept(t *testing.T) {
	r := uint64(8)
	for range 300 {
		l := drawn(&r)
		give := func() guarded { return guard(l, canaries[draw(&r, len(canaries))]) }
		g := give()
		c, m := New(g.l), modelOf(l)
		g.whole(t, "New")
		g.spoil()
		told(t, "the table of New is spoiled", &c, m)
		for range 150 {
			if draw(&r, 3) == 0 {
				next(&c, m)
				told(t, "a turn", &c, m)
			}
			g = give()
			tick(t, "a table of its own", &c, m, g.l)
			g.whole(t, "Tick")
			g.spoil()
			told(t, "the table of Tick is spoiled", &c, m)
		}
		check(t, "at the end", &c, m, l)
	}
}

// TestOneMemory has one memory for all tables: it holds the right one only while a call goes.
func TestOneMemory(t *testing.T) {
	r := uint64(9)
	memory := make([]api.Slot, most)
	for range 200 {
		l := drawn(&r)
		part := memory[:len(l)]
		copy(part, l)
		c, m := New(part), modelOf(l)
		for range 150 {
			for i := range memory {
				memory[i] = api.Slot{Cont: uint64(i), Ticks: one(&r, wrong)}
			}
			told(t, "one memory", &c, m)
			copy(part, l)
			tick(t, "one memory", &c, m, part)
		}
	}
}

// TestContsDontMatter ticks by tables that differ in their containers alone.
func TestContsDontMatter(t *testing.T) {
	r := uint64(10)
	for range 100 {
		l := drawn(&r)
		c, m := New(l), modelOf(l)
		for range 100 {
			for i := range l {
				l[i].Cont = conts[draw(&r, len(conts))]
			}
			next(&c, m)
			tick(t, "other containers", &c, m, l)
			told(t, "other containers", &c, m)
		}
	}
}

// TestLong counts more ticks, and more turns, than 16 bits, or 20, hold.
func TestLong(t *testing.T) {
	const long = 1<<20 + 100
	for _, l := range [][]api.Slot{table(1), table(16), table(3, 5), same(8, 1), same(8, 16), table(1, 2, 3, 4, 5, 6, 7, 8)} {
		c, m := New(l), modelOf(l)
		for i := range long {
			tick(t, "long", &c, m, l)
			if i%8191 == 0 {
				told(t, "long", &c, m)
			}
		}
		check(t, "long", &c, m, l)
		for i := range long {
			next(&c, m)
			if i%8191 == 0 {
				told(t, "many turns", &c, m)
			}
		}
		check(t, "many turns", &c, m, l)
		for range 300 {
			tick(t, "behind many turns", &c, m, l)
			told(t, "behind many turns", &c, m)
		}
	}
}

// TestAnyList gives every call lists that are no tables, others than before too: what they answer is left open, but they answer, and change no byte.
func TestAnyList(t *testing.T) {
	lists := [][]api.Slot{nil, {}, same(9, 1), same(9, 16), same(17, 2), same(300, 1), table(0), table(-1), table(0, 0), table(1, 2), table(16), same(8, 1), table(2, -3, 0, 17)}
	for _, ticks := range wrong {
		lists = append(lists, table(ticks), table(1, ticks), table(ticks, 1, ticks), same(8, ticks), same(12, ticks))
	}
	r := uint64(11)
	for _, first := range lists {
		c := New(first)
		var zero Clock
		for range 200 {
			g := guard(lists[draw(&r, len(lists))], canaries[draw(&r, len(canaries))])
			use(t, &c, g.l)
			use(t, &zero, g.l)
			use(t, &c, first)
			g.whole(t, "any list")
		}
	}
}

// use does every call on a clock that need not be one: just what the chapter says of any clock is held.
func use(t *testing.T, c *Clock, l []api.Slot) {
	t.Helper()
	Right(l)
	New(l)
	c.Tick(l)
	c.Slot()
	c.Now()
	c.Next()
	for _, n := range nobody {
		if c.Turn(n) != -1 {
			t.Fatalf("Turn(%d) is %d", n, c.Turn(n))
		}
	}
	for _, n := range sharers {
		if got := c.Turn(n); got >= n || got < -1 {
			t.Fatalf("Turn(%d) is %d", n, got)
		}
	}
}

// TestTickOfNoTable ticks more often by lists that are no tables than any slot of one lasts: also there a slot's ticks come to an end.
func TestTickOfNoTable(t *testing.T) {
	for _, ticks := range []int{math.MinInt, math.MinInt + 1, -1, 0} {
		l := table(ticks, ticks)
		c := New(l)
		for i := range 10 {
			if !c.Tick(l) {
				t.Fatalf("slots of %d ticks: tick %d is in a slot that goes on", ticks, i)
			}
		}
	}
}

// TestNil: what a nil clock answers is left open, but it answers.
func TestNil(t *testing.T) {
	var c *Clock
	for _, l := range [][]api.Slot{nil, {}, table(1), table(2, 1), same(8, 16), same(9, 1), table(0)} {
		for range 20 {
			use(t, c, l)
		}
		if c.Slot() != 0 || c.Now() != 0 {
			t.Fatalf("nil is in slot %d at %d", c.Slot(), c.Now())
		}
	}
}
