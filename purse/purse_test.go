package purse

import (
	"math"
	"math/big"
	"slices"
	"testing"

	"glacis/api"
)

const (
	greatest = math.MaxInt64
	least    = math.MinInt64
)

// numbers are some that a purse may have, or that may be asked of it: small ones, those at which a sum of two overflows, and the edges.
var numbers = []int64{
	least, least + 1, least + 2, least / 2, least/2 - 1, -1 << 32, math.MinInt32, -10, -3, -2, -1,
	0, 1, 2, 3, 4, 9, 10, 11, math.MaxInt32, math.MaxUint32, 1 << 32, greatest / 2, greatest/2 + 1, greatest/2 + 2, greatest - 2, greatest - 1, greatest,
}

// A model is what a purse should be, by numbers that don't overflow.
type model struct {
	limit, used, given *big.Int
}

func num(x int64) *big.Int { return big.NewInt(x) }

func plus(a, b *big.Int) *big.Int { return new(big.Int).Add(a, b) }

func less(a, b *big.Int) *big.Int { return new(big.Int).Sub(a, b) }

func modelOf(p Purse) *model { return &model{num(p.Limit), num(p.Used), num(p.Given)} }

// right is the chapter's Right.
func (m *model) right() bool {
	return m.limit.Sign() >= 0 && m.used.Sign() >= 0 && m.given.Sign() >= 0 && plus(m.used, m.given).Cmp(m.limit) <= 0
}

// left is the chapter's Left.
func (m *model) left() *big.Int { return less(less(m.limit, m.used), m.given) }

// take is the chapter's Take.
func (m *model) take(n int64) api.Errno {
	switch {
	case n < 0:
		return api.ErrArg
	case num(n).Cmp(m.left()) > 0:
		return api.ErrQuota
	}
	m.used = plus(m.used, num(n))
	return api.OK
}

// back is the chapter's Back.
func (m *model) back(n int64) api.Errno {
	if n < 0 || num(n).Cmp(m.used) > 0 {
		return api.ErrArg
	}
	m.used = less(m.used, num(n))
	return api.OK
}

// give is the chapter's Give.
func (m *model) give(n int64) (*model, api.Errno) {
	switch {
	case n < 0:
		return modelOf(Purse{}), api.ErrArg
	case num(n).Cmp(m.left()) > 0:
		return modelOf(Purse{}), api.ErrQuota
	}
	m.given = plus(m.given, num(n))
	return &model{num(n), num(0), num(0)}, api.OK
}

// giveBack is the chapter's Return.
func (m *model) giveBack(n int64) api.Errno {
	if n < 0 || num(n).Cmp(m.given) > 0 {
		return api.ErrArg
	}
	m.given = less(m.given, num(n))
	return api.OK
}

// move is the chapter's Move.
func (m *model) move(child *model, n int64) api.Errno {
	back := less(num(0), num(n))
	switch {
	case !back.IsInt64():
		return api.ErrOver
	case num(n).Cmp(m.left()) > 0 || back.Cmp(child.left()) > 0:
		return api.ErrQuota
	}
	m.given = plus(m.given, num(n))
	child.limit = plus(child.limit, num(n))
	return api.OK
}

// check holds everything that can be asked of a valid purse against the model.
func check(t *testing.T, what string, p Purse, m *model) {
	t.Helper()
	if !m.right() {
		t.Fatalf("%s: the test asks for a purse that is not valid: %v", what, p)
	}
	want := Purse{Limit: m.limit.Int64(), Used: m.used.Int64(), Given: m.given.Int64()}
	for range 2 {
		if p != want || !p.Right() {
			t.Fatalf("%s: the purse is %v, Right is %v, not %v and true", what, p, p.Right(), want)
		}
		if got := p.Left(); num(got).Cmp(m.left()) != 0 {
			t.Fatalf("%s: Left of %v is %d, not %v", what, p, got, m.left())
		}
	}
}

// take, back, give, giveBack and move do one call on a purse and on its model, and hold them against one another.
func take(t *testing.T, what string, p *Purse, m *model, n int64) api.Errno {
	t.Helper()
	before := *p
	got, want := p.Take(n), m.take(n)
	judge(t, what, "Take", before, *p, n, got, want)
	check(t, what, *p, m)
	return got
}

func back(t *testing.T, what string, p *Purse, m *model, n int64) api.Errno {
	t.Helper()
	before := *p
	got, want := p.Back(n), m.back(n)
	judge(t, what, "Back", before, *p, n, got, want)
	check(t, what, *p, m)
	return got
}

func give(t *testing.T, what string, p *Purse, m *model, n int64) (*Purse, *model, api.Errno) {
	t.Helper()
	before := *p
	gift, got := p.Give(n)
	given, want := m.give(n)
	judge(t, what, "Give", before, *p, n, got, want)
	if want := (Purse{Limit: n}); got == api.OK && gift != want {
		t.Fatalf("%s: Give(%d) of %v returns the purse %v, not %v", what, n, before, gift, want)
	}
	if got != api.OK && gift != (Purse{}) {
		t.Fatalf("%s: Give(%d) of %v returns %v beside the error %d", what, n, before, gift, int(got))
	}
	check(t, what, *p, m)
	check(t, what+", what Give returned", gift, given)
	return &gift, given, got
}

func giveBack(t *testing.T, what string, p *Purse, m *model, n int64) api.Errno {
	t.Helper()
	before := *p
	got, want := p.Return(n), m.giveBack(n)
	judge(t, what, "Return", before, *p, n, got, want)
	check(t, what, *p, m)
	return got
}

func move(t *testing.T, what string, p, child *Purse, m, c *model, n int64) api.Errno {
	t.Helper()
	before, childBefore := *p, *child
	got, want := p.Move(child, n), m.move(c, n)
	judge(t, what, "Move", before, *p, n, got, want)
	judge(t, what, "Move to the child", childBefore, *child, n, got, want)
	check(t, what, *p, m)
	check(t, what+", the child", *child, c)
	return got
}

// judge holds an answer against the one that should be, and looks at the purse beside an error.
func judge(t *testing.T, what, call string, before, now Purse, n int64, got, want api.Errno) {
	t.Helper()
	if got != want {
		t.Fatalf("%s: %s(%d) of %v is %d, not %d", what, call, n, before, int(got), int(want))
	}
	if got != api.OK && now != before {
		t.Fatalf("%s: %s(%d) of %v is %d, and changes it to %v", what, call, n, before, int(got), now)
	}
}

// triples are purses with all of numbers as their parts, valid or not; and those that are used and given up to the limit, and around it.
func triples() []Purse {
	var all []Purse
	for _, a := range numbers {
		for _, b := range numbers {
			for _, c := range numbers {
				all = append(all, Purse{Limit: a, Used: b, Given: c})
			}
			for d := int64(-2); d <= 2; d++ {
				// By wrap-round, so that some sums are just the limit only if they overflow.
				all = append(all, Purse{Limit: a, Used: b, Given: a - b + d}, Purse{Limit: a, Used: a - b + d, Given: b}, Purse{Limit: a + b + d, Used: a, Given: b})
			}
		}
	}
	return all
}

// valids are those of triples that are valid, each one once.
func valids() []Purse {
	seen := map[Purse]bool{}
	var all []Purse
	for _, p := range triples() {
		if modelOf(p).right() && !seen[p] {
			seen[p] = true
			all = append(all, p)
		}
	}
	return all
}

// amounts are numbers to ask of a purse: those of the list, and those around what it has, up and down.
func amounts(purses ...Purse) []int64 {
	all := slices.Clone(numbers)
	for _, p := range purses {
		for _, x := range []int64{p.Limit, p.Used, p.Given, p.Limit - p.Used, p.Limit - p.Given, p.Limit - p.Used - p.Given} {
			for d := int64(-1); d <= 1; d++ {
				all = append(all, x+d, -x+d)
			}
		}
	}
	slices.Sort(all)
	return slices.Compact(all)
}

func TestRight(t *testing.T) {
	right := 0
	for _, p := range triples() {
		before := p
		if got, want := p.Right(), modelOf(p).right(); got != want {
			t.Fatalf("Right of %v is %v", p, got)
		}
		if p != before {
			t.Fatalf("Right changed %v to %v", before, p)
		}
		if p.Right() {
			right++
		}
	}
	if right < 1000 || len(triples())-right < 10000 {
		t.Errorf("of %d, %d are valid", len(triples()), right)
	}
}

// TestRightByHand has the edges of each part, with answers that are worked out by hand.
func TestRightByHand(t *testing.T) {
	for _, c := range []struct {
		p    Purse
		want bool
	}{
		{Purse{}, true},
		{Purse{1, 0, 0}, true},
		{Purse{1, 1, 0}, true},
		{Purse{1, 0, 1}, true},
		{Purse{1, 1, 1}, false},
		{Purse{0, 1, 0}, false},
		{Purse{0, 0, 1}, false},
		{Purse{-1, 0, 0}, false},
		{Purse{0, -1, 0}, false},
		{Purse{0, 0, -1}, false},
		{Purse{-1, -1, -1}, false},
		{Purse{-1, -1, 0}, false},
		{Purse{-1, 0, -1}, false},
		{Purse{0, 1, -1}, false},
		{Purse{0, -1, 1}, false},
		{Purse{10, -1, 5}, false},
		{Purse{10, 5, -1}, false},
		{Purse{10, 4, 5}, true},
		{Purse{10, 4, 6}, true},
		{Purse{10, 6, 4}, true},
		{Purse{10, 4, 7}, false},
		{Purse{10, 5, 6}, false},
		{Purse{10, 10, 0}, true},
		{Purse{10, 0, 10}, true},
		{Purse{10, 11, 0}, false},
		{Purse{10, 0, 11}, false},
		{Purse{greatest, 0, 0}, true},
		{Purse{greatest, greatest, 0}, true},
		{Purse{greatest, 0, greatest}, true},
		{Purse{greatest, 1, greatest - 1}, true},
		{Purse{greatest, greatest - 1, 1}, true},
		{Purse{greatest, greatest / 2, greatest/2 + 1}, true},
		{Purse{greatest, greatest/2 + 1, greatest/2 + 1}, false},
		{Purse{greatest, 1, greatest}, false},
		{Purse{greatest, greatest, 1}, false},
		{Purse{greatest, greatest, greatest}, false},
		{Purse{0, greatest, greatest}, false},
		{Purse{0, greatest/2 + 1, greatest/2 + 1}, false},
		{Purse{10, greatest, greatest}, false},
		{Purse{greatest - 1, greatest - 1, 1}, false},
		{Purse{least, 0, 0}, false},
		{Purse{0, least, 0}, false},
		{Purse{0, 0, least}, false},
		{Purse{0, least, least}, false},
		{Purse{greatest, least, least}, false},
		{Purse{greatest, greatest, least}, false},
		{Purse{greatest, least, greatest}, false},
		{Purse{least, least, least}, false},
		{Purse{least, 1, 0}, false},
		{Purse{least, 0, 1}, false},
		{Purse{least, 1, greatest}, false},
		{Purse{-2, greatest, greatest}, false},
		{Purse{least, greatest, 1}, false},
	} {
		if got := c.p.Right(); got != c.want {
			t.Errorf("Right of %v is %v", c.p, got)
		}
	}
}

func TestLeft(t *testing.T) {
	for _, p := range valids() {
		check(t, "Left", p, modelOf(p))
	}
	for _, c := range []struct {
		p    Purse
		want int64
	}{
		{Purse{}, 0},
		{Purse{10, 0, 0}, 10},
		{Purse{10, 4, 0}, 6},
		{Purse{10, 0, 4}, 6},
		{Purse{10, 3, 4}, 3},
		{Purse{10, 4, 5}, 1},
		{Purse{10, 4, 6}, 0},
		{Purse{10, 10, 0}, 0},
		{Purse{10, 0, 10}, 0},
		{Purse{greatest, 0, 0}, greatest},
		{Purse{greatest, 1, 1}, greatest - 2},
		{Purse{greatest, greatest, 0}, 0},
		{Purse{greatest, 0, greatest}, 0},
		{Purse{greatest, greatest / 2, greatest / 2}, 1},
	} {
		if got := c.p.Left(); got != c.want {
			t.Errorf("Left of %v is %d, not %d", c.p, got, c.want)
		}
	}
}

func TestExample(t *testing.T) {
	p := Purse{Limit: 10}
	if e := p.Take(4); e != api.OK {
		t.Errorf("Take(4) is %d", int(e))
	}
	q, e := p.Give(6)
	if e != api.OK || q != (Purse{Limit: 6}) {
		t.Errorf("Give(6) is %v, %d", q, int(e))
	}
	if e := p.Take(1); e != api.ErrQuota {
		t.Errorf("Take(1) is %d", int(e))
	}
	if p != (Purse{10, 4, 6}) {
		t.Errorf("the purse is %v", p)
	}
}

// TestErrors: the chapter's errors have the document's numbers.
func TestErrors(t *testing.T) {
	if api.OK != 0 || api.ErrArg != 1 || api.ErrQuota != 5 || api.ErrOver != 11 {
		t.Errorf("OK is %d, ErrArg is %d, ErrQuota is %d, ErrOver is %d", int(api.OK), int(api.ErrArg), int(api.ErrQuota), int(api.ErrOver))
	}
}

// TestCalls has single calls with their answers, and the purse behind them, worked out by hand.
func TestCalls(t *testing.T) {
	taken := func(p *Purse, n int64) api.Errno { return p.Take(n) }
	brought := func(p *Purse, n int64) api.Errno { return p.Back(n) }
	given := func(p *Purse, n int64) api.Errno { _, e := p.Give(n); return e }
	returned := func(p *Purse, n int64) api.Errno { return p.Return(n) }
	for i, c := range []struct {
		call func(*Purse, int64) api.Errno
		p    Purse
		n    int64
		want api.Errno
		then Purse
	}{
		{taken, Purse{10, 2, 3}, 0, api.OK, Purse{10, 2, 3}},
		{taken, Purse{10, 2, 3}, 1, api.OK, Purse{10, 3, 3}},
		{taken, Purse{10, 2, 3}, 5, api.OK, Purse{10, 7, 3}},
		{taken, Purse{10, 2, 3}, 6, api.ErrQuota, Purse{10, 2, 3}},
		{taken, Purse{10, 2, 3}, greatest, api.ErrQuota, Purse{10, 2, 3}},
		{taken, Purse{10, 2, 3}, -1, api.ErrArg, Purse{10, 2, 3}},
		{taken, Purse{10, 2, 3}, least, api.ErrArg, Purse{10, 2, 3}},
		{taken, Purse{10, 7, 3}, 0, api.OK, Purse{10, 7, 3}},
		{taken, Purse{10, 7, 3}, 1, api.ErrQuota, Purse{10, 7, 3}},
		{taken, Purse{10, 7, 3}, -1, api.ErrArg, Purse{10, 7, 3}},
		{taken, Purse{}, 0, api.OK, Purse{}},
		{taken, Purse{}, 1, api.ErrQuota, Purse{}},
		{taken, Purse{}, -1, api.ErrArg, Purse{}},
		{taken, Purse{greatest, 0, 0}, greatest, api.OK, Purse{greatest, greatest, 0}},
		{taken, Purse{greatest, 1, 0}, greatest, api.ErrQuota, Purse{greatest, 1, 0}},
		{taken, Purse{greatest, 1, 0}, greatest - 1, api.OK, Purse{greatest, greatest, 0}},
		{taken, Purse{greatest, greatest, 0}, greatest, api.ErrQuota, Purse{greatest, greatest, 0}},
		{taken, Purse{greatest, greatest, 0}, least, api.ErrArg, Purse{greatest, greatest, 0}},
		{brought, Purse{10, 2, 3}, 0, api.OK, Purse{10, 2, 3}},
		{brought, Purse{10, 2, 3}, 1, api.OK, Purse{10, 1, 3}},
		{brought, Purse{10, 2, 3}, 2, api.OK, Purse{10, 0, 3}},
		{brought, Purse{10, 2, 3}, 3, api.ErrArg, Purse{10, 2, 3}},
		{brought, Purse{10, 2, 3}, greatest, api.ErrArg, Purse{10, 2, 3}},
		{brought, Purse{10, 2, 3}, -1, api.ErrArg, Purse{10, 2, 3}},
		{brought, Purse{10, 2, 3}, least, api.ErrArg, Purse{10, 2, 3}},
		{brought, Purse{10, 0, 3}, 1, api.ErrArg, Purse{10, 0, 3}},
		{brought, Purse{}, 0, api.OK, Purse{}},
		{brought, Purse{}, 1, api.ErrArg, Purse{}},
		{brought, Purse{greatest, greatest, 0}, greatest, api.OK, Purse{greatest, 0, 0}},
		{brought, Purse{greatest, greatest - 1, 0}, greatest, api.ErrArg, Purse{greatest, greatest - 1, 0}},
		{brought, Purse{greatest, greatest, 0}, least, api.ErrArg, Purse{greatest, greatest, 0}},
		{given, Purse{10, 2, 3}, 0, api.OK, Purse{10, 2, 3}},
		{given, Purse{10, 2, 3}, 1, api.OK, Purse{10, 2, 4}},
		{given, Purse{10, 2, 3}, 5, api.OK, Purse{10, 2, 8}},
		{given, Purse{10, 2, 3}, 6, api.ErrQuota, Purse{10, 2, 3}},
		{given, Purse{10, 2, 3}, greatest, api.ErrQuota, Purse{10, 2, 3}},
		{given, Purse{10, 2, 3}, -1, api.ErrArg, Purse{10, 2, 3}},
		{given, Purse{10, 2, 3}, least, api.ErrArg, Purse{10, 2, 3}},
		{given, Purse{10, 2, 8}, 0, api.OK, Purse{10, 2, 8}},
		{given, Purse{10, 2, 8}, 1, api.ErrQuota, Purse{10, 2, 8}},
		{given, Purse{}, 0, api.OK, Purse{}},
		{given, Purse{}, 1, api.ErrQuota, Purse{}},
		{given, Purse{}, -1, api.ErrArg, Purse{}},
		{given, Purse{greatest, 0, 0}, greatest, api.OK, Purse{greatest, 0, greatest}},
		{given, Purse{greatest, 0, 1}, greatest, api.ErrQuota, Purse{greatest, 0, 1}},
		{given, Purse{greatest, greatest, 0}, greatest, api.ErrQuota, Purse{greatest, greatest, 0}},
		{given, Purse{greatest, greatest, 0}, least, api.ErrArg, Purse{greatest, greatest, 0}},
		{returned, Purse{10, 2, 3}, 0, api.OK, Purse{10, 2, 3}},
		{returned, Purse{10, 2, 3}, 1, api.OK, Purse{10, 2, 2}},
		{returned, Purse{10, 2, 3}, 3, api.OK, Purse{10, 2, 0}},
		{returned, Purse{10, 2, 3}, 4, api.ErrArg, Purse{10, 2, 3}},
		{returned, Purse{10, 2, 3}, greatest, api.ErrArg, Purse{10, 2, 3}},
		{returned, Purse{10, 2, 3}, -1, api.ErrArg, Purse{10, 2, 3}},
		{returned, Purse{10, 2, 3}, least, api.ErrArg, Purse{10, 2, 3}},
		{returned, Purse{10, 2, 0}, 1, api.ErrArg, Purse{10, 2, 0}},
		{returned, Purse{}, 0, api.OK, Purse{}},
		{returned, Purse{}, 1, api.ErrArg, Purse{}},
		{returned, Purse{greatest, 0, greatest}, greatest, api.OK, Purse{greatest, 0, 0}},
		{returned, Purse{greatest, 0, greatest - 1}, greatest, api.ErrArg, Purse{greatest, 0, greatest - 1}},
		{returned, Purse{greatest, 0, greatest}, least, api.ErrArg, Purse{greatest, 0, greatest}},
	} {
		p := c.p
		if got := c.call(&p, c.n); got != c.want || p != c.then {
			t.Errorf("call %d, of %v with %d: %d, and %v, not %d, and %v", i, c.p, c.n, int(got), p, int(c.want), c.then)
		}
	}
}

// TestSingle does each call of one purse with each amount on all valid purses.
func TestSingle(t *testing.T) {
	done := map[string]int{}
	count := func(call string, e api.Errno) {
		if e == api.OK {
			done[call]++
		}
	}
	for _, p := range valids() {
		for _, n := range amounts(p) {
			q := p
			count("Take", take(t, "single", &q, modelOf(q), n))
			q = p
			count("Back", back(t, "single", &q, modelOf(q), n))
			q = p
			_, _, e := give(t, "single", &q, modelOf(q), n)
			count("Give", e)
			q = p
			count("Return", giveBack(t, "single", &q, modelOf(q), n))
		}
	}
	for _, call := range []string{"Take", "Back", "Give", "Return"} {
		if done[call] < 1000 {
			t.Errorf("%s was OK only %d times", call, done[call])
		}
	}
}

// TestWhatThereIs asks of each valid purse just what there is, one more, and all of it once more.
func TestWhatThereIs(t *testing.T) {
	for _, p := range valids() {
		left := p.Left()
		for _, c := range []struct {
			what string
			call func(*Purse, *model, int64) api.Errno
			is   int64
			more api.Errno
		}{
			{"Take", func(q *Purse, m *model, n int64) api.Errno { return take(t, "what there is", q, m, n) }, left, api.ErrQuota},
			{"Back", func(q *Purse, m *model, n int64) api.Errno { return back(t, "what there is", q, m, n) }, p.Used, api.ErrArg},
			{"Give", func(q *Purse, m *model, n int64) api.Errno { _, _, e := give(t, "what there is", q, m, n); return e }, left, api.ErrQuota},
			{"Return", func(q *Purse, m *model, n int64) api.Errno { return giveBack(t, "what there is", q, m, n) }, p.Given, api.ErrArg},
		} {
			q, m := p, modelOf(p)
			if c.is < greatest {
				if e := c.call(&q, m, c.is+1); e != c.more {
					t.Fatalf("%s of one more than is in %v: %d", c.what, p, int(e))
				}
			}
			if e := c.call(&q, m, c.is); e != api.OK {
				t.Fatalf("%s of all that is in %v: %d", c.what, p, int(e))
			}
			for _, n := range []int64{1, max(c.is, 1), greatest} {
				if e := c.call(&q, m, n); e != c.more {
					t.Fatalf("%s of %d behind all that was in %v: %d", c.what, n, p, int(e))
				}
			}
			if e := c.call(&q, m, 0); e != api.OK {
				t.Fatalf("%s of 0 behind all that was in %v: %d", c.what, p, int(e))
			}
		}
	}
}

// TestThereAndBack: what is taken and brought back, or given and returned, leaves the purse as it was.
func TestThereAndBack(t *testing.T) {
	for _, p := range valids() {
		for _, n := range amounts(p) {
			q, m := p, modelOf(p)
			if take(t, "there", &q, m, n) == api.OK {
				if e := back(t, "and back", &q, m, n); e != api.OK || q != p {
					t.Fatalf("%d of %v, taken and brought back: %d, %v", n, p, int(e), q)
				}
			}
			if _, _, e := give(t, "there", &q, m, n); e == api.OK {
				if e := giveBack(t, "and back", &q, m, n); e != api.OK || q != p {
					t.Fatalf("%d of %v, given and returned: %d, %v", n, p, int(e), q)
				}
			}
		}
	}
}

// TestNegative: an amount below 0 is ErrArg, whatever the purse has, and changes nothing.
func TestNegative(t *testing.T) {
	for _, p := range valids() {
		for _, n := range numbers {
			if n >= 0 {
				continue
			}
			q := p
			gift, e := q.Give(n)
			for call, got := range map[string]api.Errno{"Take": q.Take(n), "Back": q.Back(n), "Give": e, "Return": q.Return(n)} {
				if got != api.ErrArg || q != p || gift != (Purse{}) {
					t.Fatalf("%s(%d) of %v: %d, %v, the gift %v", call, n, p, int(got), q, gift)
				}
			}
		}
	}
}

// TestGift: what Give returned and the purse that gave it have nothing in common, but what Move transfers.
func TestGift(t *testing.T) {
	for _, p := range valids() {
		if p.Left() == 0 {
			continue
		}
		q, m := p, modelOf(p)
		gift, given, _ := give(t, "gift", &q, m, p.Left())
		after := q
		take(t, "of the gift", gift, given, gift.Limit)
		back(t, "of the gift", gift, given, gift.Limit/2)
		give(t, "of the gift", gift, given, gift.Left())
		giveBack(t, "of the gift", gift, given, gift.Given)
		if q != after {
			t.Fatalf("what was done with the gift changed %v to %v", after, q)
		}
		kept := *gift
		take(t, "behind the gift", &q, m, 1)
		back(t, "behind the gift", &q, m, q.Used)
		giveBack(t, "behind the gift", &q, m, 1)
		give(t, "behind the gift", &q, m, 1)
		if *gift != kept {
			t.Fatalf("what was done with the giver changed the gift %v to %v", kept, *gift)
		}
	}
}

// TestGifts gives all of a purse in pieces, of which each is a purse of its own.
func TestGifts(t *testing.T) {
	p := Purse{Limit: 100, Used: 10}
	m := modelOf(p)
	var gifts []*Purse
	var givens []*model
	for _, n := range []int64{0, 1, 40, 0, 48, 1, 0} {
		gift, given, e := give(t, "gifts", &p, m, n)
		if e != api.OK {
			t.Fatalf("Give(%d) of %v is %d", n, p, int(e))
		}
		gifts, givens = append(gifts, gift), append(givens, given)
	}
	if p != (Purse{100, 10, 90}) || p.Left() != 0 {
		t.Fatalf("the purse is %v", p)
	}
	for i, gift := range gifts {
		take(t, "of a gift", gift, givens[i], gift.Limit)
		for j := range gifts {
			check(t, "the other gifts", *gifts[j], givens[j])
		}
	}
	check(t, "the giver", p, m)
}

// families are purses with one that each of them gave: the giver's Given is the child's Limit, or greater by what it gave to others.
func families() [][2]Purse {
	limits := []int64{0, 1, 2, 10, math.MaxUint32, greatest/2 + 1, greatest - 1, greatest}
	shares := func(whole int64) []int64 {
		var all []int64
		for _, x := range []int64{0, 1, 2, whole / 2, whole/2 + 1, whole - 2, whole - 1, whole} {
			if x >= 0 && x <= whole {
				all = append(all, x)
			}
		}
		slices.Sort(all)
		return slices.Compact(all)
	}
	var all [][2]Purse
	for _, limit := range limits {
		for _, given := range shares(limit) {
			for _, used := range shares(limit - given) {
				for _, n := range []int64{0, 1, given / 2, given} {
					if n > given {
						continue
					}
					for _, childs := range shares(n) {
						all = append(all, [2]Purse{{limit, used, given}, {n, childs, 0}}, [2]Purse{{limit, used, given}, {n, childs / 2, childs - childs/2}})
					}
				}
			}
		}
	}
	return all
}

// TestMove moves each amount in all families.
func TestMove(t *testing.T) {
	there, backs := 0, 0
	for _, f := range families() {
		for _, n := range amounts(f[0], f[1]) {
			p, child := f[0], f[1]
			e := move(t, "move", &p, &child, modelOf(p), modelOf(child), n)
			if e != api.OK {
				continue
			}
			if p.Limit != f[0].Limit || p.Used != f[0].Used || child.Used != f[1].Used || child.Given != f[1].Given {
				t.Fatalf("Move(%d) of %v changed them to %v and %v", n, f, p, child)
			}
			if p.Left() != f[0].Left()-n || child.Left() != f[1].Left()+n {
				t.Fatalf("Move(%d) of %v: %d and %d are left", n, f, p.Left(), child.Left())
			}
			if n > 0 {
				there++
			} else if n < 0 {
				backs++
			}
			if e := move(t, "moved back", &p, &child, modelOf(p), modelOf(child), -n); e != api.OK || p != f[0] || child != f[1] {
				t.Fatalf("Move(%d) and Move(%d) of %v: %d, %v and %v", n, -n, f, int(e), p, child)
			}
		}
	}
	if there < 1000 || backs < 1000 {
		t.Errorf("%d moved there, %d back", there, backs)
	}
}

// TestMoveAll moves all that the one who loses has left, one more, and once more.
func TestMoveAll(t *testing.T) {
	for _, f := range families() {
		for _, way := range []int64{1, -1} {
			p, child := f[0], f[1]
			m, c := modelOf(p), modelOf(child)
			n := p.Left()
			if way < 0 {
				n = child.Left()
			}
			if n < greatest {
				if e := move(t, "one more", &p, &child, m, c, way*(n+1)); e != api.ErrQuota {
					t.Fatalf("Move(%d) of %v is %d", way*(n+1), f, int(e))
				}
			}
			if e := move(t, "all", &p, &child, m, c, way*n); e != api.OK {
				t.Fatalf("Move(%d) of %v is %d", way*n, f, int(e))
			}
			if way > 0 && p.Left() != 0 || way < 0 && child.Left() != 0 {
				t.Fatalf("Move(%d) of %v leaves %v and %v", way*n, f, p, child)
			}
			for _, more := range []int64{1, max(n, 1), greatest} {
				if e := move(t, "more", &p, &child, m, c, way*more); e != api.ErrQuota {
					t.Fatalf("Move(%d) behind all of %v is %d", way*more, f, int(e))
				}
			}
			if e := move(t, "nothing", &p, &child, m, c, 0); e != api.OK {
				t.Fatalf("Move(0) behind all of %v is %d", f, int(e))
			}
		}
	}
}

// TestMoveByHand has moves with their answers worked out by hand.
func TestMoveByHand(t *testing.T) {
	for i, c := range []struct {
		p, child Purse
		n        int64
		want     api.Errno
		then     Purse
		childs   Purse
	}{
		{Purse{10, 1, 6}, Purse{6, 2, 1}, 0, api.OK, Purse{10, 1, 6}, Purse{6, 2, 1}},
		{Purse{10, 1, 6}, Purse{6, 2, 1}, 3, api.OK, Purse{10, 1, 9}, Purse{9, 2, 1}},
		{Purse{10, 1, 6}, Purse{6, 2, 1}, 4, api.ErrQuota, Purse{10, 1, 6}, Purse{6, 2, 1}},
		{Purse{10, 1, 6}, Purse{6, 2, 1}, -3, api.OK, Purse{10, 1, 3}, Purse{3, 2, 1}},
		{Purse{10, 1, 6}, Purse{6, 2, 1}, -4, api.ErrQuota, Purse{10, 1, 6}, Purse{6, 2, 1}},
		{Purse{10, 1, 6}, Purse{6, 2, 1}, greatest, api.ErrQuota, Purse{10, 1, 6}, Purse{6, 2, 1}},
		{Purse{10, 1, 6}, Purse{6, 2, 1}, -greatest, api.ErrQuota, Purse{10, 1, 6}, Purse{6, 2, 1}},
		{Purse{10, 1, 6}, Purse{6, 2, 1}, least, api.ErrOver, Purse{10, 1, 6}, Purse{6, 2, 1}},
		// Others of the giver's pages are with others.
		{Purse{10, 0, 8}, Purse{3, 0, 0}, 2, api.OK, Purse{10, 0, 10}, Purse{5, 0, 0}},
		{Purse{10, 0, 8}, Purse{3, 0, 0}, 3, api.ErrQuota, Purse{10, 0, 8}, Purse{3, 0, 0}},
		{Purse{10, 0, 8}, Purse{3, 0, 0}, -3, api.OK, Purse{10, 0, 5}, Purse{}},
		{Purse{10, 0, 8}, Purse{3, 0, 0}, -4, api.ErrQuota, Purse{10, 0, 8}, Purse{3, 0, 0}},
		// Nothing is left of the giver's, or of the child's.
		{Purse{10, 4, 6}, Purse{6, 0, 0}, 1, api.ErrQuota, Purse{10, 4, 6}, Purse{6, 0, 0}},
		{Purse{10, 4, 6}, Purse{6, 0, 0}, -6, api.OK, Purse{10, 4, 0}, Purse{}},
		{Purse{10, 0, 6}, Purse{6, 6, 0}, -1, api.ErrQuota, Purse{10, 0, 6}, Purse{6, 6, 0}},
		{Purse{10, 0, 6}, Purse{6, 0, 6}, -1, api.ErrQuota, Purse{10, 0, 6}, Purse{6, 0, 6}},
		{Purse{10, 0, 6}, Purse{6, 0, 6}, 4, api.OK, Purse{10, 0, 10}, Purse{10, 0, 6}},
		// The greatest limits.
		{Purse{greatest, 0, 0}, Purse{}, greatest, api.OK, Purse{greatest, 0, greatest}, Purse{greatest, 0, 0}},
		{Purse{greatest, 0, greatest}, Purse{greatest, 0, 0}, -greatest, api.OK, Purse{greatest, 0, 0}, Purse{}},
		{Purse{greatest, 0, greatest}, Purse{greatest, 1, 0}, -greatest, api.ErrQuota, Purse{greatest, 0, greatest}, Purse{greatest, 1, 0}},
		{Purse{greatest, 0, greatest}, Purse{greatest, 0, 0}, least, api.ErrOver, Purse{greatest, 0, greatest}, Purse{greatest, 0, 0}},
		{Purse{greatest, 0, greatest}, Purse{greatest, 0, 0}, greatest, api.ErrQuota, Purse{greatest, 0, greatest}, Purse{greatest, 0, 0}},
		{Purse{greatest, 1, 0}, Purse{}, greatest, api.ErrQuota, Purse{greatest, 1, 0}, Purse{}},
		// Limit 0.
		{Purse{}, Purse{}, 0, api.OK, Purse{}, Purse{}},
		{Purse{}, Purse{}, 1, api.ErrQuota, Purse{}, Purse{}},
		{Purse{}, Purse{}, -1, api.ErrQuota, Purse{}, Purse{}},
		{Purse{}, Purse{}, least, api.ErrOver, Purse{}, Purse{}},
	} {
		p, child := c.p, c.child
		if got := p.Move(&child, c.n); got != c.want || p != c.then || child != c.childs {
			t.Errorf("move %d, of %v to %v with %d: %d, %v and %v", i, c.p, c.child, c.n, int(got), p, child)
		}
	}
}

// TestMoveOver: the least int64 can't be moved, whatever is left, and changes nothing; the one above it is judged as any other.
func TestMoveOver(t *testing.T) {
	for _, f := range families() {
		p, child := f[0], f[1]
		if e := p.Move(&child, least); e != api.ErrOver || p != f[0] || child != f[1] {
			t.Fatalf("Move of the least int64 of %v: %d, %v and %v", f, int(e), p, child)
		}
		want := api.ErrQuota
		if f[1].Left() == greatest {
			want = api.OK
		}
		if e := p.Move(&child, least+1); e != want {
			t.Fatalf("Move of the least int64 but one of %v: %d", f, int(e))
		}
	}
}

// TestLimitZero: a purse of Limit 0 can do nothing but with 0 pages.
func TestLimitZero(t *testing.T) {
	p, m := &Purse{}, modelOf(Purse{})
	for range 2 {
		for _, n := range numbers {
			take(t, "Limit 0", p, m, n)
			back(t, "Limit 0", p, m, n)
			gift, given, e := give(t, "Limit 0", p, m, n)
			if (e == api.OK) != (n == 0) || *gift != (Purse{}) {
				t.Fatalf("Give(%d) of Limit 0 is %v, %d", n, *gift, int(e))
			}
			giveBack(t, "Limit 0", p, m, n)
			for _, x := range numbers {
				if e := move(t, "Limit 0", p, gift, m, given, x); (e == api.OK) != (x == 0) {
					t.Fatalf("Move(%d) of Limit 0 is %d", x, int(e))
				}
			}
		}
		if *p != (Purse{}) {
			t.Fatalf("Limit 0 has become %v", *p)
		}
		// And one of Limit 0 that another one gave.
		q := Purse{Limit: 7}
		p, m, _ = give(t, "a gift of 0", &q, modelOf(q), 0)
	}
}

// TestLimitZeroGets: a purse of Limit 0 may get pages, and lose them again.
func TestLimitZeroGets(t *testing.T) {
	p := Purse{Limit: 7, Used: 2}
	m := modelOf(p)
	child, c, _ := give(t, "given 0", &p, m, 0)
	for range 3 {
		if e := move(t, "gets", &p, child, m, c, 5); e != api.OK || *child != (Purse{Limit: 5}) || p != (Purse{7, 2, 5}) {
			t.Fatalf("Move(5): %d, %v and %v", int(e), p, *child)
		}
		if e := take(t, "uses", child, c, 4); e != api.OK {
			t.Fatalf("Take(4) of %v: %d", *child, int(e))
		}
		if e := move(t, "loses", &p, child, m, c, -2); e != api.ErrQuota {
			t.Fatalf("Move(-2) with %v: %d", *child, int(e))
		}
		back(t, "used", child, c, 4)
		if e := move(t, "loses", &p, child, m, c, -5); e != api.OK || *child != (Purse{}) || p != (Purse{7, 2, 0}) {
			t.Fatalf("Move(-5): %d, %v and %v", int(e), p, *child)
		}
	}
}

// A node is a purse of a family, with its model and those that it gave pages to.
type node struct {
	p     *Purse
	m     *model
	from  *node
	kids  []*node
	depth int
}

// sound holds all of a family against its models, and each Given against the Limits of those who have it.
func (x *node) sound(t *testing.T, what string) {
	t.Helper()
	check(t, what, *x.p, x.m)
	sum := num(0)
	for _, kid := range x.kids {
		kid.sound(t, what)
		sum = plus(sum, kid.m.limit)
	}
	if sum.Cmp(num(x.p.Given)) != 0 {
		t.Fatalf("%s: Given is %d, those who have it have %v", what, x.p.Given, sum)
	}
}

// spread gives n of a node's pages to a new one.
func (x *node) spread(t *testing.T, what string, n int64) (*node, api.Errno) {
	t.Helper()
	p, m, e := give(t, what, x.p, x.m, n)
	if e != api.OK {
		return nil, e
	}
	kid := &node{p: p, m: m, from: x, depth: x.depth + 1}
	x.kids = append(x.kids, kid)
	return kid, e
}

// end lets a node's giver have its pages again; it isn't of the family any more.
func (x *node) end(t *testing.T, what string) {
	t.Helper()
	giver := x.from
	giver.kids = slices.DeleteFunc(giver.kids, func(kid *node) bool { return kid == x })
	if e := giveBack(t, what, giver.p, giver.m, x.p.Limit); e != api.OK {
		t.Fatalf("%s: Return(%d) of %v is %d", what, x.p.Limit, *giver.p, int(e))
	}
}

// TestChain lets each purse give all that is left of it but one page that it uses, to the last one that has none; and back.
func TestChain(t *testing.T) {
	for _, limit := range []int64{0, 1, 2, 5, 40, greatest} {
		root := &node{p: &Purse{Limit: limit}, m: modelOf(Purse{Limit: limit})}
		line := []*node{root}
		for range 60 {
			last := line[len(line)-1]
			take(t, "chain", last.p, last.m, 1)
			kid, e := last.spread(t, "chain", last.p.Left())
			if e != api.OK {
				t.Fatalf("Give of all that is left of %v: %d", *last.p, int(e))
			}
			line = append(line, kid)
			root.sound(t, "chain")
		}
		for i, x := range line {
			if want := max(limit-int64(i), 0); x.p.Limit != want {
				t.Fatalf("purse %d of Limit %d has %d, not %d", i, limit, x.p.Limit, want)
			}
		}
		// One page more for the last but one can only come from the last one.
		for i := len(line) - 1; i > 0; i-- {
			giver, x := line[i-1], line[i]
			if e := move(t, "chain", giver.p, x.p, giver.m, x.m, 1); e != api.ErrQuota {
				t.Fatalf("Move(1) from %v, of which all is given: %d", *giver.p, int(e))
			}
			back(t, "chain", x.p, x.m, x.p.Used)
			if e := move(t, "chain", giver.p, x.p, giver.m, x.m, -x.p.Limit); e != api.OK || *x.p != (Purse{}) {
				t.Fatalf("Move of all of %v: %d", *x.p, int(e))
			}
			root.sound(t, "back along the chain")
		}
		back(t, "chain", root.p, root.m, root.p.Used)
		if *root.p != (Purse{Limit: limit}) {
			t.Fatalf("the purse has become %v", *root.p)
		}
	}
}

// TestGrandchildren: a move between two doesn't change those above and below them.
func TestGrandchildren(t *testing.T) {
	for _, limit := range []int64{100, greatest} {
		root := &node{p: &Purse{Limit: limit}, m: modelOf(Purse{Limit: limit})}
		a, _ := root.spread(t, "grandchildren", limit-10)
		b, _ := a.spread(t, "grandchildren", a.p.Left()-10)
		c, _ := b.spread(t, "grandchildren", b.p.Left()-10)
		all := []*node{root, a, b, c}
		take(t, "grandchildren", c.p, c.m, 5)
		root.sound(t, "grandchildren")
		for i := 1; i < len(all); i++ {
			for _, n := range amounts(*all[i-1].p, *all[i].p) {
				var before []Purse
				for _, x := range all {
					before = append(before, *x.p)
				}
				e := move(t, "grandchildren", all[i-1].p, all[i].p, all[i-1].m, all[i].m, n)
				for j, x := range all {
					if j != i && j != i-1 && *x.p != before[j] {
						t.Fatalf("Move(%d) from %d to %d changed purse %d to %v", n, i-1, i, j, *x.p)
					}
				}
				root.sound(t, "grandchildren")
				if e == api.OK {
					move(t, "grandchildren", all[i-1].p, all[i].p, all[i-1].m, all[i].m, -n)
				}
			}
		}
		// What is at a grandchild can't be moved back by its giver's giver ahead of its giver.
		if e := move(t, "grandchildren", root.p, a.p, root.m, a.m, -11); e != api.ErrQuota {
			t.Fatalf("Move(-11) from %v: %d", *a.p, int(e))
		}
		if e := move(t, "grandchildren", a.p, b.p, a.m, b.m, -10); e != api.OK {
			t.Fatalf("Move(-10) from %v: %d", *b.p, int(e))
		}
		if e := move(t, "grandchildren", root.p, a.p, root.m, a.m, -11); e != api.OK {
			t.Fatalf("Move(-11) from %v: %d", *a.p, int(e))
		}
		root.sound(t, "grandchildren")
	}
}

// TestAllWays goes all ways of four calls of Take, Back and Move that change something, with five amounts, on a purse, one that it gave, and one that that one gave.
func TestAllWays(t *testing.T) {
	for _, start := range [][3]Purse{
		{{3, 0, 0}, {0, 0, 0}, {0, 0, 0}},
		{{3, 0, 2}, {2, 0, 1}, {1, 0, 0}},
		{{3, 1, 2}, {2, 1, 1}, {1, 1, 0}},
		{{greatest, 0, greatest - 1}, {greatest - 1, 0, greatest - 2}, {greatest - 2, greatest - 3, 0}},
	} {
		goOn(t, start, 4)
	}
}

func goOn(t *testing.T, start [3]Purse, left int) {
	if left == 0 {
		return
	}
	amounts := []int64{-1, 0, 1, 2, greatest}
	for i := range start {
		for _, n := range amounts {
			for _, call := range []func(*testing.T, string, *Purse, *model, int64) api.Errno{take, back} {
				next := start
				if call(t, "all ways", &next[i], modelOf(next[i]), n) == api.OK && next != start {
					goOn(t, next, left-1)
				}
			}
			if i == 0 {
				continue
			}
			next := start
			if move(t, "all ways", &next[i-1], &next[i], modelOf(next[i-1]), modelOf(next[i]), n) == api.OK && next != start {
				goOn(t, next, left-1)
			}
		}
	}
}

// A rule draws numbers by a short one.
type rule uint64

func (r *rule) draw(n int) int {
	*r = *r*6364136223846793005 + 1442695040888963407
	return int(uint64(*r)>>33) % n
}

// amount is a number to ask of purses: mostly one that is possible, or nearly.
func (r *rule) amount(purses ...*Purse) int64 {
	p := purses[r.draw(len(purses))]
	some := []int64{0, 1, 2, 3, p.Left(), p.Left() + 1, p.Left() - 1, p.Left() / 2, p.Left() / 3, p.Used, p.Used + 1, p.Used / 2, p.Given, p.Given + 1, p.Given / 2, p.Limit, -p.Left(), -p.Left() - 1, -p.Left() / 2, -1, -2, least, greatest}
	return some[r.draw(len(some))]
}

// TestLongWay goes a long way with families of purses, in which each page is always with one of them.
func TestLongWay(t *testing.T) {
	for i, limit := range []int64{0, 1, 7, 1000, 1 << 40, greatest - 1, greatest} {
		r := rule(i)
		root := &node{p: &Purse{Limit: limit}, m: modelOf(Purse{Limit: limit})}
		all := []*node{root}
		deepest, moved, ended := 0, 0, 0
		for range 6000 {
			x := all[r.draw(len(all))]
			switch r.draw(6) {
			case 0:
				take(t, "a long way", x.p, x.m, r.amount(x.p))
			case 1:
				back(t, "a long way", x.p, x.m, r.amount(x.p))
			case 2:
				if len(all) > 12 {
					continue
				}
				if kid, e := x.spread(t, "a long way", r.amount(x.p)); e == api.OK {
					all, deepest = append(all, kid), max(deepest, kid.depth)
				}
			case 3, 4:
				if x == root {
					continue
				}
				if move(t, "a long way", x.from.p, x.p, x.from.m, x.m, r.amount(x.p, x.from.p)) == api.OK {
					moved++
				}
			default:
				if x == root || len(x.kids) > 0 || r.draw(3) > 0 {
					continue
				}
				x.end(t, "a long way")
				all = slices.DeleteFunc(all, func(y *node) bool { return y == x })
				ended++
			}
			root.sound(t, "a long way")
		}
		if root.p.Limit != limit || deepest < 3 || moved < 100 || ended < 30 {
			t.Errorf("Limit %d: %d deep, %d moves, %d ended, the purse %v", limit, deepest, moved, ended, *root.p)
		}
	}
}

// TestWideReturn: Return goes by Given alone, in pieces that are none of the gifts.
func TestWideReturn(t *testing.T) {
	p := Purse{Limit: 50}
	m := modelOf(p)
	for range 5 {
		give(t, "gifts", &p, m, 10)
	}
	for _, c := range []struct {
		n    int64
		want api.Errno
	}{{51, api.ErrArg}, {7, api.OK}, {44, api.ErrArg}, {25, api.OK}, {0, api.OK}, {18, api.OK}, {1, api.ErrArg}} {
		if e := giveBack(t, "in pieces", &p, m, c.n); e != c.want {
			t.Fatalf("Return(%d) is %d, the purse %v", c.n, int(e), p)
		}
	}
	if p != (Purse{Limit: 50}) {
		t.Errorf("the purse is %v", p)
	}
}

// TestApart: a copy of a purse has nothing in common with it, and Right and Left are asked of values.
func TestApart(t *testing.T) {
	p := Purse{10, 2, 3}
	q := p
	take(t, "a copy", &q, modelOf(q), 5)
	if p != (Purse{10, 2, 3}) {
		t.Errorf("a copy's call changed %v", p)
	}
	if !(Purse{1, 1, 0}).Right() || (Purse{4, 1, 1}).Left() != 2 {
		t.Error("values can't be asked")
	}
	purses := map[string]Purse{"a": {10, 2, 3}}
	if !purses["a"].Right() || purses["a"].Left() != 5 {
		t.Error("a map's purse can't be asked")
	}
	var embeds struct {
		Purse
		Name uint64
	}
	embeds.Limit = 4
	if embeds.Take(3) != api.OK || embeds.Left() != 1 || !embeds.Right() {
		t.Errorf("embedded: %v", embeds)
	}
}

// TestFieldsSet: the parts may be set from outside to valid values.
func TestFieldsSet(t *testing.T) {
	p := Purse{Limit: 10}
	m := modelOf(p)
	take(t, "set", &p, m, 10)
	p.Limit, m.limit = 20, num(20)
	take(t, "set", &p, m, 11)
	take(t, "set", &p, m, 10)
	p.Used, m.used = 3, num(3)
	back(t, "set", &p, m, 4)
	back(t, "set", &p, m, 3)
	p.Given, m.given = 19, num(19)
	give(t, "set", &p, m, 2)
	give(t, "set", &p, m, 1)
	giveBack(t, "set", &p, m, 20)
	if p != (Purse{Limit: 20}) {
		t.Errorf("the purse is %v", p)
	}
}

// TestInvalid: what purses answer that are not valid is left open, but they answer.
func TestInvalid(t *testing.T) {
	for _, p := range triples() {
		for _, n := range []int64{least, -1, 0, 1, greatest} {
			q, child := p, p
			q.Left()
			q.Take(n)
			q.Back(n)
			q.Give(n)
			q.Return(n)
			q.Move(&child, n)
			q.Move(&q, n)
			q.Right()
		}
	}
}

// TestNil: what a purse answers that is none is left open, but it answers, and changes nothing.
func TestNil(t *testing.T) {
	var none *Purse
	for _, n := range numbers {
		p := Purse{Limit: 10, Used: 2, Given: 3}
		gift, e := none.Give(n)
		for _, got := range []api.Errno{none.Take(n), none.Back(n), e, none.Return(n), none.Move(&p, n), p.Move(none, n), none.Move(none, n)} {
			if got == api.OK {
				t.Fatalf("no purse does a call with %d", n)
			}
		}
		if p != (Purse{10, 2, 3}) || gift != (Purse{}) {
			t.Fatalf("a call with no purse and %d makes %v and %v", n, p, gift)
		}
		if got := p.Move(none, n); (got == api.ErrOver) != (n == least) {
			t.Fatalf("Move(nil, %d) is %d", n, int(got))
		}
	}
}
