package rel_test

import (
	"math"
	"math/rand"
	"slices"
	"testing"

	"understudy/api"
	"understudy/rel"
)

// odd are numbers that are no thing and no size, some of which look like one in their lowest bits.
func odd() []int {
	return []int{-1, -2, -63, -64, -65, 65, 66, 127, 128, 256, 1 << 31, 1 << 32, 1<<32 + 1, 1<<62 + 1, -1 << 32, -1<<32 + 1, math.MaxInt, math.MinInt, math.MinInt + 1}
}

// noThings are numbers that are no thing of so many: those just past the end, and the odd ones.
func noThings(n int) []int {
	out := odd()
	for a := n; a <= 64; a++ {
		out = append(out, a)
	}
	return out
}

// model is a relation of so many things as a plain set of pairs; what it tells is looked for there, as the chapter's words have it.
type model struct {
	n  int
	in map[[2]int]bool
}

func modelOf(n int, pairs ...[2]int) model {
	m := model{n, map[[2]int]bool{}}
	for _, p := range pairs {
		m.in[p] = true
	}
	return m
}

// such is the model of the pairs for which this holds.
func such(n int, holds func(a, b int) bool) model {
	m := modelOf(n)
	for a := range n {
		for b := range n {
			if holds(a, b) {
				m.in[[2]int{a, b}] = true
			}
		}
	}
	return m
}

func (m model) has(a, b int) bool { return m.in[[2]int{a, b}] }

func (m model) pairs() [][2]int {
	var out [][2]int
	for a := range m.n {
		for b := range m.n {
			if m.has(a, b) {
				out = append(out, [2]int{a, b})
			}
		}
	}
	return out
}

func (m model) union(s model) model {
	return such(m.n, func(a, b int) bool { return m.has(a, b) || s.has(a, b) })
}

func (m model) inter(s model) model {
	return such(m.n, func(a, b int) bool { return m.has(a, b) && s.has(a, b) })
}

func (m model) minus(s model) model {
	return such(m.n, func(a, b int) bool { return m.has(a, b) && !s.has(a, b) })
}

func (m model) then(s model) model {
	return such(m.n, func(a, c int) bool {
		for b := range m.n {
			if m.has(a, b) && s.has(b, c) {
				return true
			}
		}
		return false
	})
}

func (m model) turned() model {
	return such(m.n, func(a, b int) bool { return m.has(b, a) })
}

// reached are the things to which one or more pairs lead from a, found by walking.
func (m model) reached(a int) map[int]bool {
	out := map[int]bool{}
	for todo := []int{a}; len(todo) > 0; todo = todo[1:] {
		for b := range m.n {
			if m.has(todo[0], b) && !out[b] {
				out[b] = true
				todo = append(todo, b)
			}
		}
	}
	return out
}

func (m model) closed() model {
	out := modelOf(m.n)
	for a := range m.n {
		for b := range m.reached(a) {
			out.in[[2]int{a, b}] = true
		}
	}
	return out
}

func (m model) loop() (int, bool) {
	for a := range m.n {
		if m.reached(a)[a] {
			return a, true
		}
	}
	return 0, false
}

// fits tells whether a list of all things is an order of the relation.
func (m model) fits(list []int) bool {
	for p := range m.in {
		if slices.Index(list, p[0]) >= slices.Index(list, p[1]) {
			return false
		}
	}
	return true
}

// order takes, again and again, the least thing that is left and behind no other that is left.
func (m model) order() ([]int, bool) {
	var out []int
	for len(out) < m.n {
		next := -1
		for b := m.n - 1; b >= 0; b-- {
			free := !slices.Contains(out, b)
			for a := range m.n {
				free = free && (!m.has(a, b) || slices.Contains(out, a))
			}
			if free {
				next = b
			}
		}
		if next < 0 {
			return nil, false
		}
		out = append(out, next)
	}
	return out, true
}

// lists are all orders of so many things, the least one first.
func lists(n int) [][]int {
	out := [][]int{nil}
	for range n {
		var longer [][]int
		for _, l := range out {
			for a := range n {
				if !slices.Contains(l, a) {
					longer = append(longer, append(slices.Clone(l), a))
				}
			}
		}
		out = longer
	}
	return out
}

// numbered is the relation of n things whose pairs are the bits of a number.
func numbered(n, number int) model {
	return such(n, func(a, b int) bool { return number>>(a*n+b)&1 == 1 })
}

// sparse is a relation with some pairs by chance.
func sparse(r *rand.Rand, n, pairs int) model {
	m := modelOf(n)
	for range pairs {
		if n > 0 {
			m.in[[2]int{r.Intn(n), r.Intn(n)}] = true
		}
	}
	return m
}

// rising is one without a loop: things in an order by chance, pairs only along it.
func rising(r *rand.Rand, n, pairs int) model {
	m, place := modelOf(n), r.Perm(n)
	for p := range sparse(r, n, pairs).in {
		if p[0] < p[1] {
			m.in[[2]int{place[p[0]], place[p[1]]}] = true
		}
	}
	return m
}

// sizes are numbers of things at the edges, and some between.
func sizes() []int { return []int{0, 1, 2, 3, 5, 31, 32, 33, 62, 63, 64} }

// made is the relation of a model.
func made(t *testing.T, m model) *rel.Rel {
	t.Helper()
	r, e := rel.Of(m.n, m.pairs()...)
	if r == nil || e != api.OK {
		t.Fatal("Of", m.n, e)
	}
	return r
}

// same holds a relation against a model: its size, its pairs, and what Has tells of each two things.
func same(t *testing.T, what string, r *rel.Rel, m model) {
	t.Helper()
	if r == nil {
		t.Fatal(what, "no relation")
	}
	if r.Size() != m.n {
		t.Fatal(what, "Size", r.Size(), m.n)
	}
	if p, want := r.Pairs(), m.pairs(); !slices.Equal(p, want) {
		t.Fatal(what, m.n, p, want)
	}
	for a := range m.n {
		for b := range m.n {
			if r.Has(a, b) != m.has(a, b) {
				t.Fatal(what, "Has", m.n, a, b)
			}
		}
	}
}

// fine is the relation of an answer, which may have no error.
func fine(t *testing.T) func(*rel.Rel, api.Errno) *rel.Rel {
	return func(r *rel.Rel, e api.Errno) *rel.Rel {
		t.Helper()
		if r == nil || e != api.OK {
			t.Fatal(e)
		}
		return r
	}
}
