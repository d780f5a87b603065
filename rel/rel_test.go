package rel_test

import (
	"math/rand"
	"slices"
	"testing"

	"understudy/api"
	"understudy/rel"
)

// The chapter's table of examples, line by line.
func TestExamples(t *testing.T) {
	r, e := rel.Of(4, [2]int{0, 1}, [2]int{1, 2})
	if e != api.OK || !slices.Equal(r.Closed().Pairs(), [][2]int{{0, 1}, {0, 2}, {1, 2}}) {
		t.Error(e, r.Closed().Pairs())
	}
	r, e = rel.Of(4, [2]int{2, 1}, [2]int{3, 0})
	if l, ok := r.Order(); e != api.OK || !ok || !slices.Equal(l, []int{2, 1, 3, 0}) {
		t.Error(e, l, ok)
	}
	r, e = rel.Of(4, [2]int{0, 1}, [2]int{1, 0})
	if a, ok := r.Loop(); e != api.OK || a != 0 || !ok {
		t.Error(e, a, ok)
	}
	if l, ok := r.Order(); len(l) != 0 || ok {
		t.Error(l, ok)
	}
	if r, e := rel.New(65); r != nil || e != api.ErrLong {
		t.Error(e)
	}
	if r, e := rel.New(-1); r != nil || e != api.ErrArg {
		t.Error(e)
	}
	if r, e := rel.Of(1, [2]int{0, 1}); r != nil || e != api.ErrArg {
		t.Error(e)
	}
}

// P13.1: New and Of without pairs, of each size that may be: no pair is there.
func TestNew(t *testing.T) {
	for n := 0; n <= 64; n++ {
		same(t, "New", fine(t)(rel.New(n)), modelOf(n))
		same(t, "Of", fine(t)(rel.Of(n)), modelOf(n))
	}
}

// P13.1: sizes that may not be: ErrArg below 0, ErrLong above 64, whatever the pairs are, and no relation.
func TestSizeWrong(t *testing.T) {
	for _, n := range odd() {
		want := api.ErrLong
		if n < 0 {
			want = api.ErrArg
		}
		if r, e := rel.New(n); r != nil || e != want {
			t.Error("New", n, e)
		}
		for _, p := range [][2]int{{0, 0}, {64, 64}, {-1, -1}, {n, n}} {
			if r, e := rel.Of(n, p); r != nil || e != want {
				t.Error("Of", n, p, e)
			}
		}
	}
}

// P13.1: Of with each pair alone, at both edges of a row, and with all pairs.
func TestOf(t *testing.T) {
	for _, n := range sizes() {
		for a := range n {
			for b := range n {
				if p := [2]int{a, b}; n < 6 || a%31 < 2 || b%31 < 2 {
					r := fine(t)(rel.Of(n, p))
					if l := r.Pairs(); !slices.Equal(l, [][2]int{p}) || !r.Has(a, b) || r.Has(b, a) != (a == b) {
						t.Fatal(n, p, l)
					}
				}
			}
		}
		all := such(n, func(a, b int) bool { return true })
		same(t, "all", made(t, all), all)
	}
}

// P13.1: the order in which pairs are told, and how often, is not to be seen.
func TestOfAnyOrder(t *testing.T) {
	r := rand.New(rand.NewSource(131))
	for _, n := range sizes() {
		m := sparse(r, n, 3*n)
		list := append(m.pairs(), m.pairs()...)
		r.Shuffle(len(list), func(i, k int) { list[i], list[k] = list[k], list[i] })
		same(t, "shuffled", fine(t)(rel.Of(n, list...)), m)
	}
}

// P13.1, P6: numbers that are no thing: Of and Add answer ErrArg, Has false; one wrong pair among right ones is enough, and what was there stays.
func TestNoThing(t *testing.T) {
	for _, n := range sizes() {
		m := such(n, func(a, b int) bool { return (a+b)%3 == 0 })
		r := made(t, m)
		for _, no := range noThings(n) {
			for _, p := range [][2]int{{no, no}, {no, 0}, {0, no}, {no, n - 1}, {n - 1, no}} {
				if r.Has(p[0], p[1]) {
					t.Error("Has", n, p)
				}
				if e := r.Add(p[0], p[1]); e != api.ErrArg {
					t.Error("Add", n, p, e)
				}
				for _, list := range [][][2]int{{p}, append(m.pairs(), p), append([][2]int{p}, m.pairs()...)} {
					if r, e := rel.Of(n, list...); r != nil || e != api.ErrArg {
						t.Error("Of", n, p, e)
					}
				}
			}
		}
		same(t, "behind Add", r, m)
	}
}

// P13.1: Add puts just this pair in, once and for all; again it changes nothing.
func TestAdd(t *testing.T) {
	r := rand.New(rand.NewSource(132))
	for _, n := range []int{1, 2, 5, 33, 64} {
		x, m := fine(t)(rel.New(n)), modelOf(n)
		for range 60 {
			p := [2]int{r.Intn(n), r.Intn(n)}
			m.in[p] = true
			for range 2 {
				if e := x.Add(p[0], p[1]); e != api.OK {
					t.Fatal(n, p, e)
				}
			}
			same(t, "Add", x, m)
		}
	}
}

// twofold holds all calls with two relations against the model.
func twofold(t *testing.T, r, s *rel.Rel, m, k model) {
	t.Helper()
	same(t, "Union", fine(t)(r.Union(s)), m.union(k))
	same(t, "Inter", fine(t)(r.Inter(s)), m.inter(k))
	same(t, "Minus", fine(t)(r.Minus(s)), m.minus(k))
	same(t, "Then", fine(t)(r.Then(s)), m.then(k))
	same(t, "r stays", r, m)
	same(t, "s stays", s, k)
}

// P13.2: Union, Inter, Minus and Then of all relations of two things, and of many of each size.
func TestTwo(t *testing.T) {
	for one := range 16 {
		for other := range 16 {
			m, k := numbered(2, one), numbered(2, other)
			twofold(t, made(t, m), made(t, k), m, k)
		}
	}
	r := rand.New(rand.NewSource(133))
	for _, n := range sizes() {
		for _, pairs := range []int{0, 1, n, 4 * n, n * n} {
			m, k := sparse(r, n, pairs), sparse(r, n, 2*n)
			twofold(t, made(t, m), made(t, k), m, k)
			twofold(t, made(t, k), made(t, m), k, m)
		}
	}
}

// P13.2: one relation with itself.
func TestWithItself(t *testing.T) {
	r := rand.New(rand.NewSource(134))
	for _, n := range sizes() {
		m := sparse(r, n, 2*n)
		x := made(t, m)
		twofold(t, x, x, m, m)
	}
}

// P13.2: relations of two sizes: ErrRel, and none, whether they have pairs or not.
func TestSizesDiffer(t *testing.T) {
	for n := 0; n <= 64; n++ {
		for _, k := range sizes() {
			if n == k {
				continue
			}
			one := such(n, func(a, b int) bool { return n%2 == 0 })
			other := such(k, func(a, b int) bool { return k%2 == 1 })
			r, s := made(t, one), made(t, other)
			for at, call := range []func(*rel.Rel) (*rel.Rel, api.Errno){r.Union, r.Inter, r.Minus, r.Then} {
				if x, e := call(s); x != nil || e != api.ErrRel {
					t.Fatal(at, n, k, e)
				}
			}
			if !slices.Equal(r.Pairs(), one.pairs()) || !slices.Equal(s.Pairs(), other.pairs()) {
				t.Fatal(n, k, "changed")
			}
		}
	}
}

// alone holds all calls with one relation against the model.
func alone(t *testing.T, m model) {
	t.Helper()
	r := made(t, m)
	same(t, "Turned", r.Turned(), m.turned())
	same(t, "Closed", r.Closed(), m.closed())
	a, ok := r.Loop()
	if want, is := m.loop(); a != want || ok != is {
		t.Fatal("Loop", m.pairs(), a, ok)
	}
	l, ok := r.Order()
	if want, is := m.order(); !slices.Equal(l, want) || ok != is {
		t.Fatal("Order", m.pairs(), l, ok)
	}
	same(t, "stays", r, m)
}

// P13.2, P13.3: Turned, Closed, Loop and Order of all relations of up to three things.
func TestOneSmall(t *testing.T) {
	for n := range 4 {
		for number := range 1 << (n * n) {
			alone(t, numbered(n, number))
		}
	}
}

// P13.2, P13.3: the same of relations of each size, with loops and without.
func TestOne(t *testing.T) {
	r := rand.New(rand.NewSource(135))
	for _, n := range sizes() {
		for _, pairs := range []int{0, 1, n / 2, n, 2 * n, n * n} {
			alone(t, sparse(r, n, pairs))
			alone(t, rising(r, n, pairs))
		}
	}
}

// P13.2: Closed follows a way through all things, in whichever order they lie on it.
func TestClosedFar(t *testing.T) {
	r := rand.New(rand.NewSource(136))
	for round := range 40 {
		way := r.Perm(64)
		switch round {
		case 0:
			slices.Sort(way)
		case 1:
			slices.Sort(way)
			slices.Reverse(way)
		}
		m, want := modelOf(64), modelOf(64)
		for k, a := range way {
			if k > 0 {
				m.in[[2]int{way[k-1], a}] = true
			}
			for _, b := range way[k+1:] {
				want.in[[2]int{a, b}] = true
			}
		}
		same(t, "way", made(t, m).Closed(), want)
		m.in[[2]int{way[63], way[0]}] = true
		same(t, "round", made(t, m).Closed(), such(64, func(a, b int) bool { return true }))
	}
}

// P13.3: a thing that leads to itself is a loop of its own, and the least thing of several loops is told; what only leads to a loop, or comes from one, is on none.
func TestLoop(t *testing.T) {
	for _, n := range []int{1, 2, 33, 64} {
		for a := range n {
			r := fine(t)(rel.Of(n, [2]int{a, a}))
			if at, ok := r.Loop(); at != a || !ok {
				t.Error(n, a, at, ok)
			}
			if l, ok := r.Order(); len(l) != 0 || ok {
				t.Error(n, a, l, ok)
			}
		}
	}
	r := fine(t)(rel.Of(64, [2]int{63, 40}, [2]int{40, 63}, [2]int{0, 40}, [2]int{63, 1}, [2]int{50, 50}))
	if at, ok := r.Loop(); at != 40 || !ok {
		t.Error(at, ok)
	}
	r.Add(7, 30)
	r.Add(30, 20)
	r.Add(20, 7)
	if at, ok := r.Loop(); at != 7 || !ok {
		t.Error(at, ok)
	}
}

// P13.3: of all lists of four things, the first one in which each pair stands in its order is told, for all relations of four things; there is one just if there is no loop.
func TestOrderLeast(t *testing.T) {
	all := lists(4)
	for number := range 1 << 16 {
		m := numbered(4, number)
		r := fine(t)(rel.Of(4, m.pairs()...))
		l, ok := r.Order()
		at := slices.IndexFunc(all, m.fits)
		if ok != (at >= 0) || ok && !slices.Equal(l, all[at]) || !ok && len(l) != 0 {
			t.Fatal(m.pairs(), l, ok)
		}
		if _, is := r.Loop(); is == ok {
			t.Fatal(m.pairs(), "both or none")
		}
	}
}

// P13.3: orders written out: nothing to order, the way back through all things, and one where a lesser thing is ready only behind a greater one.
func TestOrder(t *testing.T) {
	for n := 0; n <= 64; n++ {
		var up, down []int
		back := fine(t)(rel.New(n))
		for a := range n {
			up, down = append(up, a), append(down, n-1-a)
			if a > 0 {
				back.Add(a, a-1)
			}
		}
		if l, ok := fine(t)(rel.New(n)).Order(); !slices.Equal(l, up) || !ok {
			t.Error(n, l, ok)
		}
		if l, ok := back.Order(); !slices.Equal(l, down) || !ok {
			t.Error(n, l, ok)
		}
	}
	r := fine(t)(rel.Of(6, [2]int{5, 0}, [2]int{4, 1}, [2]int{0, 2}, [2]int{3, 2}))
	if l, ok := r.Order(); !slices.Equal(l, []int{3, 4, 1, 5, 0, 2}) || !ok {
		t.Error(l, ok)
	}
}
