package label

import (
	"math"
	"slices"
	"testing"

	"glacis/api"
)

// cats are the categories that the tests' labels name; the last one is named by none of them.
var cats = []uint32{1, 2, api.MaxCat, 7}

// point is a label as a function: the level of each of cats.
type point [4]int

func pointOf(l api.Label) point {
	var p point
	for i, c := range cats {
		p[i] = l.Default
		for _, pair := range l.Pairs {
			if pair.Cat == c {
				p[i] = pair.Level
			}
		}
	}
	return p
}

// labels are all labels over the first n of cats, with levels up to top.
func labels(n, low, top int) []api.Label {
	var all []api.Label
	for def := low; def <= top; def++ {
		some := []api.Label{{Default: def}}
		for _, c := range cats[:n] {
			var more []api.Label
			for _, l := range some {
				for level := api.Star; level <= top; level++ {
					next := api.Label{Default: def, Pairs: slices.Clone(l.Pairs)}
					if level != def {
						next.Pairs = append(next.Pairs, api.Pair{Cat: c, Level: level})
					}
					more = append(more, next)
				}
			}
			some = more
		}
		all = append(all, some...)
	}
	return all
}

// valid are all valid labels over three categories, given labels of the same kind and those with Star and High.
func valid() []api.Label { return labels(3, api.L0, api.L3) }
func given() []api.Label { return labels(2, api.Star, api.High) }

// checkForm holds the pairs of a result against what all results have in common.
func checkForm(t *testing.T, what string, l api.Label) {
	t.Helper()
	last := uint32(0)
	for _, p := range l.Pairs {
		if p.Cat <= last || p.Level == l.Default {
			t.Fatalf("%s: pairs of %v are out of order, or have the default's level", what, l)
		}
		last = p.Cat
	}
}

func chain(n int, level int) []api.Pair {
	var pairs []api.Pair
	for i := range n {
		pairs = append(pairs, api.Pair{Cat: uint32(i + 1), Level: level})
	}
	return pairs
}

func TestRight(t *testing.T) {
	for _, l := range valid() {
		if !Right(l) {
			t.Errorf("Right(%v) is false", l)
		}
	}
	for _, c := range []struct {
		what  string
		label api.Label
		want  bool
	}{
		{"default Star", api.Label{Default: api.Star}, false},
		{"default L0", api.Label{Default: api.L0}, true},
		{"default L3", api.Label{Default: api.L3, Pairs: []api.Pair{}}, true},
		{"default High", api.Label{Default: api.High}, false},
		{"default below", api.Label{Default: -1}, false},
		{"default least", api.Label{Default: math.MinInt}, false},
		{"default greatest", api.Label{Default: math.MaxInt}, false},
		{"MaxPairs pairs", api.Label{Default: api.L1, Pairs: chain(api.MaxPairs, api.L3)}, true},
		{"one more", api.Label{Default: api.L1, Pairs: chain(api.MaxPairs+1, api.L3)}, false},
		{"category 0", api.Label{Default: api.L1, Pairs: []api.Pair{{Cat: 0, Level: 4}}}, false},
		{"category 0, then 1", api.Label{Default: api.L1, Pairs: []api.Pair{{Cat: 0, Level: 4}, {Cat: 1, Level: 4}}}, false},
		{"category 1", api.Label{Default: api.L1, Pairs: []api.Pair{{Cat: 1, Level: 4}}}, true},
		{"category MaxCat", api.Label{Default: api.L1, Pairs: []api.Pair{{Cat: api.MaxCat, Level: 4}}}, true},
		{"one beyond", api.Label{Default: api.L1, Pairs: []api.Pair{{Cat: api.MaxCat + 1, Level: 4}}}, false},
		{"the greatest number", api.Label{Default: api.L1, Pairs: []api.Pair{{Cat: math.MaxUint32, Level: 4}}}, false},
		{"twice", api.Label{Default: api.L1, Pairs: []api.Pair{{Cat: 5, Level: 4}, {Cat: 5, Level: 3}}}, false},
		{"falling", api.Label{Default: api.L1, Pairs: []api.Pair{{Cat: 5, Level: 4}, {Cat: 4, Level: 3}}}, false},
		{"falling later", api.Label{Default: api.L1, Pairs: []api.Pair{{Cat: 2, Level: 4}, {Cat: 5, Level: 4}, {Cat: 4, Level: 3}}}, false},
		{"level Star", api.Label{Default: api.L1, Pairs: []api.Pair{{Cat: 5, Level: api.Star}}}, true},
		{"level L0", api.Label{Default: api.L1, Pairs: []api.Pair{{Cat: 5, Level: api.L0}}}, true},
		{"level L3", api.Label{Default: api.L1, Pairs: []api.Pair{{Cat: 5, Level: api.L3}}}, true},
		{"level High", api.Label{Default: api.L1, Pairs: []api.Pair{{Cat: 5, Level: api.High}}}, false},
		{"level below", api.Label{Default: api.L1, Pairs: []api.Pair{{Cat: 5, Level: -1}}}, false},
		{"the default's level", api.Label{Default: api.L1, Pairs: []api.Pair{{Cat: 5, Level: api.L1}}}, false},
		{"the default's level later", api.Label{Default: api.L2, Pairs: []api.Pair{{Cat: 5, Level: 1}, {Cat: 6, Level: 3}}}, false},
	} {
		if Right(c.label) != c.want {
			t.Errorf("%s: Right(%v) is not %v", c.what, c.label, c.want)
		}
	}
}

func TestOf(t *testing.T) {
	for level := api.Star; level <= api.High; level++ {
		l := Of(level)
		if l.Default != level || len(l.Pairs) != 0 {
			t.Errorf("Of(%d) is %v", level, l)
		}
		for _, c := range cats {
			if At(l, c) != level {
				t.Errorf("At(Of(%d), %d) is %d", level, c, At(l, c))
			}
		}
	}
}

func TestAt(t *testing.T) {
	for _, l := range append(valid(), given()...) {
		for i, c := range cats {
			if At(l, c) != pointOf(l)[i] {
				t.Fatalf("At(%v, %d) is %d", l, c, At(l, c))
			}
		}
	}
	full := api.Label{Default: api.L1, Pairs: chain(api.MaxPairs, api.L3)}
	for c := uint32(1); c <= api.MaxPairs; c++ {
		if At(full, c) != api.L3 {
			t.Errorf("At(full, %d) is %d", c, At(full, c))
		}
	}
	for _, c := range []uint32{0, api.MaxPairs + 1, api.MaxCat, math.MaxUint32} {
		if At(full, c) != api.L1 {
			t.Errorf("At(full, %d) is %d", c, At(full, c))
		}
	}
}

func TestWith(t *testing.T) {
	for _, l := range append(valid(), given()...) {
		for i, c := range cats {
			for level := api.Star; level <= api.High; level++ {
				want := pointOf(l)
				want[i] = level
				w := With(l, c, level)
				checkForm(t, "With", w)
				if w.Default != l.Default || pointOf(w) != want {
					t.Fatalf("With(%v, %d, %d) is %v", l, c, level, w)
				}
			}
		}
	}
	full := api.Label{Default: api.L1, Pairs: chain(api.MaxPairs, api.L3)}
	more := With(full, 100, api.Star)
	if len(more.Pairs) != api.MaxPairs+1 || At(more, 100) != api.Star || At(more, api.MaxPairs) != api.L3 {
		t.Errorf("With beyond MaxPairs: %v", more)
	}
	if less := With(more, 100, api.L1); !Same(less, full) || !Right(less) {
		t.Errorf("With the default's level: %v", less)
	}
}

func TestLeqJoinMeet(t *testing.T) {
	check := func(all []api.Label) {
		for _, a := range all {
			for _, b := range all {
				checkTwo(t, a, b)
			}
		}
	}
	check(valid())
	check(given())
}

func checkTwo(t *testing.T, a, b api.Label) {
	t.Helper()
	p, q := pointOf(a), pointOf(b)
	leq := a.Default <= b.Default
	var upper, lower point
	for i := range p {
		leq = leq && p[i] <= q[i]
		upper[i], lower[i] = max(p[i], q[i]), min(p[i], q[i])
	}
	if Leq(a, b) != leq {
		t.Fatalf("Leq(%v, %v) is not %v", a, b, leq)
	}
	if same := a.Default == b.Default && p == q; Same(a, b) != same {
		t.Fatalf("Same(%v, %v) is not %v", a, b, same)
	}
	j := Join(a, b)
	checkForm(t, "Join", j)
	if j.Default != max(a.Default, b.Default) || pointOf(j) != upper {
		t.Fatalf("Join(%v, %v) is %v", a, b, j)
	}
	m := Meet(a, b)
	checkForm(t, "Meet", m)
	if m.Default != min(a.Default, b.Default) || pointOf(m) != lower {
		t.Fatalf("Meet(%v, %v) is %v", a, b, m)
	}
}

// TestOrder is P2.2, by the calls alone.
func TestOrder(t *testing.T) {
	all := append(labels(2, api.L0, api.L3), Raise(Of(api.Star)), With(Of(api.L1), 2, api.High))
	for _, a := range all {
		if !Leq(a, a) {
			t.Fatalf("%v is not at or below itself", a)
		}
		for _, b := range all {
			if Leq(a, b) && Leq(b, a) && !Same(a, b) {
				t.Fatalf("%v and %v are at or below each other", a, b)
			}
			j, m := Join(a, b), Meet(a, b)
			if !Leq(a, j) || !Leq(b, j) || !Leq(m, a) || !Leq(m, b) {
				t.Fatalf("%v and %v: no bounds are %v and %v", a, b, j, m)
			}
			for _, c := range all {
				if Leq(a, b) && Leq(b, c) && !Leq(a, c) {
					t.Fatalf("%v, %v, %v: the order does not carry over", a, b, c)
				}
				if Leq(a, c) && Leq(b, c) && !Leq(j, c) {
					t.Fatalf("%v is above %v and %v, but not above %v", c, a, b, j)
				}
				if Leq(c, a) && Leq(c, b) && !Leq(c, m) {
					t.Fatalf("%v is below %v and %v, but not below %v", c, a, b, m)
				}
			}
		}
	}
}

func TestManyPairs(t *testing.T) {
	odd, even := api.Label{Default: api.L1}, api.Label{Default: api.L2}
	for i := range uint32(api.MaxPairs) {
		odd.Pairs = append(odd.Pairs, api.Pair{Cat: 2*i + 1, Level: api.L3})
		even.Pairs = append(even.Pairs, api.Pair{Cat: 2*i + 2, Level: api.L0})
	}
	j, m := Join(odd, even), Meet(odd, even)
	if len(j.Pairs) != 2*api.MaxPairs || len(m.Pairs) != 2*api.MaxPairs {
		t.Fatalf("%v and %v are not of %d pairs", j, m, 2*api.MaxPairs)
	}
	for c := uint32(1); c <= 2*api.MaxPairs; c++ {
		if At(j, c) != max(At(odd, c), At(even, c)) || At(m, c) != min(At(odd, c), At(even, c)) {
			t.Errorf("category %d: %d and %d", c, At(j, c), At(m, c))
		}
	}
	if !Leq(odd, j) || !Leq(even, j) || Leq(j, odd) || Leq(j, even) || !Leq(m, odd) || Leq(odd, m) || !Leq(m, j) {
		t.Errorf("Leq of %v, %v, %v, %v", odd, even, j, m)
	}
	if last := With(j, 2*api.MaxPairs, api.Star); Leq(j, last) || !Leq(last, j) || Same(j, last) {
		t.Errorf("the last pair of %v does not count", last)
	}
}

func TestRaiseLowerRest(t *testing.T) {
	for _, c := range []struct {
		what       string
		call       func(api.Label) api.Label
		old, level int
	}{
		{"Raise", Raise, api.Star, api.High},
		{"Lower", Lower, api.High, api.Star},
		{"Rest", Rest, api.Star, api.L1},
	} {
		for _, l := range append(valid(), given()...) {
			got := c.call(l)
			checkForm(t, c.what, got)
			want, def := pointOf(l), l.Default
			for i := range want {
				if want[i] == c.old {
					want[i] = c.level
				}
			}
			if def == c.old {
				def = c.level
			}
			if got.Default != def || pointOf(got) != want {
				t.Fatalf("%s(%v) is %v", c.what, l, got)
			}
		}
	}
	for _, l := range valid() {
		if !Same(Lower(Raise(l)), l) {
			t.Fatalf("Lower(Raise(%v)) is another label", l)
		}
	}
}

func TestOwns(t *testing.T) {
	for _, l := range valid() {
		var want []uint32
		for i, c := range cats {
			if pointOf(l)[i] == api.Star {
				want = append(want, c)
			}
		}
		if got := Owns(l); !slices.Equal(got, want) {
			t.Fatalf("Owns(%v) is %v", l, got)
		}
		if got := Owns(Raise(l)); len(got) != 0 {
			t.Fatalf("Owns(Raise(%v)) is %v", l, got)
		}
	}
	if got := Owns(api.Label{Default: api.L1, Pairs: chain(api.MaxPairs, api.Star)}); len(got) != api.MaxPairs {
		t.Errorf("Owns of a label that owns all is %v", got)
	}
}

func TestSame(t *testing.T) {
	a := api.Label{Default: api.L1, Pairs: []api.Pair{{Cat: 3, Level: api.L3}}}
	for _, b := range []api.Label{
		{}, {Default: api.L1}, {Default: api.L2, Pairs: a.Pairs},
		{Default: api.L1, Pairs: []api.Pair{{Cat: 4, Level: api.L3}}},
		{Default: api.L1, Pairs: []api.Pair{{Cat: 3, Level: api.L2}}},
		{Default: api.L1, Pairs: []api.Pair{{Cat: 3, Level: api.L3}, {Cat: 4, Level: api.L3}}},
	} {
		if Same(a, b) || Same(b, a) {
			t.Errorf("Same(%v, %v)", a, b)
		}
	}
	if !Same(Of(api.L1), api.Label{Default: api.L1, Pairs: []api.Pair{}}) || !Same(a, With(Of(api.L1), 3, api.L3)) {
		t.Error("what is the same is not")
	}
}

func TestExamples(t *testing.T) {
	one := Of(api.L1)
	if !Leq(one, With(one, 9, api.L3)) || Leq(With(one, 9, api.L3), one) {
		t.Error("Leq({1}, {1, c 3})")
	}
	if got := Raise(With(one, 9, api.Star)); !Same(got, With(one, 9, api.High)) {
		t.Errorf("Raise({1, c Star}) is %v", got)
	}
}

// TestNewMemory holds that arguments stay as they were and that answers share nothing with them.
func TestNewMemory(t *testing.T) {
	room := make([]api.Pair, 3, 8)
	copy(room, []api.Pair{{Cat: 3, Level: api.Star}, {Cat: 5, Level: api.L3}, {Cat: 9, Level: api.L0}})
	a := api.Label{Default: api.L1, Pairs: room}
	b := api.Label{Default: api.L1, Pairs: slices.Clone(room)}
	for i, l := range []api.Label{
		With(a, 4, api.L2), With(a, 10, api.L2), With(a, 5, api.L2), With(a, 5, api.L1), With(a, 4, api.L1), With(a, 9, api.L1),
		Join(a, a), Meet(a, a), Join(a, Of(api.L0)), Meet(Of(api.L3), a), Raise(a), Lower(a), Rest(a),
	} {
		for j := range l.Pairs {
			l.Pairs[j] = api.Pair{Cat: 77, Level: 77}
		}
		l.Pairs = append(l.Pairs, api.Pair{Cat: 78, Level: 78})
		if !Same(a, b) || room[:4][3] != (api.Pair{}) {
			t.Fatalf("answer %d shares memory with its argument", i)
		}
	}
	Owns(a)[0] = 1
	if !Leq(a, b) || !Leq(b, a) || !Same(a, b) {
		t.Error("an argument was changed")
	}
}

// TestAnyLabel is P0: labels that may not be end, and do not panic.
func TestAnyLabel(t *testing.T) {
	odd := []api.Label{
		{}, {Default: math.MinInt}, {Default: math.MaxInt, Pairs: chain(40, math.MinInt)},
		{Default: api.L1, Pairs: []api.Pair{{Cat: math.MaxUint32, Level: 99}, {Cat: 0, Level: -7}, {Cat: 0, Level: -7}}},
		{Default: api.L1, Pairs: []api.Pair{{Cat: 5, Level: 2}, {Cat: 5, Level: 2}, {Cat: 4, Level: 2}, {Cat: 9, Level: 0}}},
	}
	for _, a := range odd {
		Right(a)
		Of(a.Default)
		Raise(a)
		Lower(a)
		Rest(a)
		Owns(a)
		for _, c := range []uint32{0, 1, 4, 5, api.MaxCat, math.MaxUint32} {
			At(a, c)
			With(a, c, math.MinInt)
			With(a, c, a.Default)
		}
		for _, b := range odd {
			Leq(a, b)
			Join(a, b)
			Meet(a, b)
			Same(a, b)
		}
	}
}
