package rel_test

import (
	"math/rand"
	"slices"
	"testing"

	"understudy/rel"
)

// P13.2: Kept of all relations of three things, from each set to each set.
func TestKeptSmall(t *testing.T) {
	for number := range 1 << 9 {
		m := numbered(3, number)
		r := made(t, m)
		for sets := range 1 << 6 {
			from := func(a int) bool { return sets>>a&1 == 1 }
			to := func(b int) bool { return sets>>(3+b)&1 == 1 }
			same(t, "Kept", r.Kept(from, to), such(3, func(a, b int) bool { return m.has(a, b) && from(a) && to(b) }))
		}
		same(t, "stays", r, m)
	}
}

// P13.2: nil is true of all, on either side, and on both.
func TestKeptNil(t *testing.T) {
	r := rand.New(rand.NewSource(137))
	odd := func(a int) bool { return a%2 == 1 }
	for _, n := range sizes() {
		m := sparse(r, n, 3*n)
		x := made(t, m)
		same(t, "both", x.Kept(nil, nil), m)
		same(t, "from", x.Kept(odd, nil), such(n, func(a, b int) bool { return m.has(a, b) && odd(a) }))
		same(t, "to", x.Kept(nil, odd), such(n, func(a, b int) bool { return m.has(a, b) && odd(b) }))
		same(t, "stays", x, m)
	}
}

// P13.2: each of the two is asked of each pair, whatever the other one says, and of nothing else.
func TestKeptAsks(t *testing.T) {
	r := rand.New(rand.NewSource(138))
	for _, n := range sizes() {
		m := sparse(r, n, 3*n)
		x := made(t, m)
		var first, second []int
		for _, p := range m.pairs() {
			first, second = append(first, p[0]), append(second, p[1])
		}
		for _, say := range [][2]bool{{false, false}, {false, true}, {true, false}, {true, true}} {
			var from, to []int
			x.Kept(func(a int) bool { from = append(from, a); return say[0] }, func(b int) bool { to = append(to, b); return say[1] })
			if !slices.Equal(from, first) || !slices.Equal(to, second) {
				t.Fatal(n, say, from, to)
			}
		}
	}
}

// P1, P13.2: a function that panics has not said true: just the pairs of those things are not kept.
func TestKeptPanics(t *testing.T) {
	m := such(5, func(a, b int) bool { return true })
	r := made(t, m)
	wild := func(at int, what any) func(int) bool {
		return func(a int) bool {
			if a == at {
				panic(what)
			}
			return true
		}
	}
	for _, what := range []any{"x", 0, nil, oops{}} {
		same(t, "from", r.Kept(wild(3, what), nil), such(5, func(a, b int) bool { return a != 3 }))
		same(t, "to", r.Kept(nil, wild(0, what)), such(5, func(a, b int) bool { return b != 0 }))
		same(t, "both", r.Kept(wild(2, what), wild(4, what)), such(5, func(a, b int) bool { return a != 2 && b != 4 }))
	}
	broken := func(a int) bool { return []bool{true, true}[a] }
	same(t, "index", r.Kept(broken, broken), such(5, func(a, b int) bool { return a < 2 && b < 2 }))
	same(t, "stays", r, m)
}

// oops is an error whose text cannot be told.
type oops struct{ error }

// P13.2: the pairs are those that were there when Kept was called, though a function adds some.
func TestKeptAdds(t *testing.T) {
	m := modelOf(4, [2]int{0, 1}, [2]int{2, 3})
	r := made(t, m)
	adds := func(a int) bool {
		r.Add(0, 2)
		r.Add(3, 3)
		r.Add(2, 0)
		return true
	}
	same(t, "Kept", r.Kept(adds, adds), m)
	same(t, "r", r, modelOf(4, [2]int{0, 1}, [2]int{0, 2}, [2]int{2, 0}, [2]int{2, 3}, [2]int{3, 3}))
}

// P13.2: a function may ask the relation itself.
func TestKeptAsksItself(t *testing.T) {
	r := rand.New(rand.NewSource(139))
	m := sparse(r, 20, 40)
	x := made(t, m)
	got := x.Kept(func(a int) bool { return x.Has(a, a) }, func(b int) bool { return x.Closed().Has(b, b) })
	closed := m.closed()
	same(t, "Kept", got, such(20, func(a, b int) bool { return m.has(a, b) && m.has(a, a) && closed.has(b, b) }))
}

// P3: what Kept answers is a relation of its own.
func TestKeptIsNew(t *testing.T) {
	m := modelOf(3, [2]int{0, 1})
	r := made(t, m)
	all := func(int) bool { return true }
	for _, k := range []*rel.Rel{r.Kept(nil, nil), r.Kept(all, all)} {
		k.Add(2, 2)
		same(t, "r", r, m)
	}
}
