package rel_test

import (
	"math/rand"
	"slices"
	"testing"

	"understudy/api"
	"understudy/rel"
)

// alike tells whether two relations are of one size and have the same pairs.
func alike(r, s *rel.Rel) bool { return r.Size() == s.Size() && slices.Equal(r.Pairs(), s.Pairs()) }

// laws holds what follows of three relations of one size against the calls themselves.
func laws(t *testing.T, r, s, u *rel.Rel) {
	t.Helper()
	if c := r.Closed(); !alike(c.Closed(), c) {
		t.Fatal("Closed of Closed", r.Pairs())
	}
	left := fine(t)(fine(t)(r.Then(s)).Then(u))
	right := fine(t)(r.Then(fine(t)(s.Then(u))))
	if !alike(left, right) {
		t.Fatal("Then", r.Pairs(), s.Pairs(), u.Pairs())
	}
	_, loop := r.Loop()
	if _, order := r.Order(); loop == order {
		t.Fatal("Loop and Order", r.Pairs(), loop, order)
	}
	if !alike(r.Turned().Turned(), r) {
		t.Fatal("Turned of Turned", r.Pairs())
	}
	if !alike(fine(t)(r.Turned().Union(s.Turned())), fine(t)(r.Union(s)).Turned()) {
		t.Fatal("Union of Turned", r.Pairs(), s.Pairs())
	}
	if !alike(fine(t)(r.Turned().Inter(s.Turned())), fine(t)(r.Inter(s)).Turned()) {
		t.Fatal("Inter of Turned", r.Pairs(), s.Pairs())
	}
}

// P13.4: of all three relations of two things, and of many of each size.
func TestLaws(t *testing.T) {
	for number := range 1 << 12 {
		laws(t, made(t, numbered(2, number&15)), made(t, numbered(2, number>>4&15)), made(t, numbered(2, number>>8)))
	}
	r := rand.New(rand.NewSource(140))
	for _, n := range sizes() {
		for range 20 {
			x, y, z := sparse(r, n, r.Intn(3*n+1)), rising(r, n, r.Intn(3*n+1)), sparse(r, n, r.Intn(n*n+1))
			laws(t, made(t, x), made(t, y), made(t, z))
			laws(t, made(t, y), made(t, z), made(t, x))
		}
	}
}

// derived are all relations that calls make of two.
func derived(t *testing.T, r, s *rel.Rel) []*rel.Rel {
	return []*rel.Rel{
		fine(t)(r.Union(s)), fine(t)(r.Inter(s)), fine(t)(r.Minus(s)), fine(t)(r.Then(s)),
		r.Turned(), r.Closed(), r.Kept(nil, nil),
	}
}

// P13.2, P3: what is answered is a new relation: an Add to it does not reach r or s, an Add to these does not reach it, and no two answers share anything.
func TestNewRelations(t *testing.T) {
	m, k := modelOf(4, [2]int{0, 1}, [2]int{1, 2}), modelOf(4, [2]int{1, 2}, [2]int{2, 3})
	empty := modelOf(4)
	for _, of := range [][2]model{{m, k}, {k, m}, {m, empty}, {empty, m}, {m, m}} {
		r, s := made(t, of[0]), made(t, of[1])
		first, second := derived(t, r, s), derived(t, r, s)
		var was [][][2]int
		for _, x := range first {
			was = append(was, x.Pairs())
		}
		for _, x := range second {
			x.Add(3, 0)
			x.Add(3, 3)
		}
		same(t, "r", r, of[0])
		same(t, "s", s, of[1])
		for _, x := range []*rel.Rel{r, s} {
			x.Add(3, 1)
			x.Add(0, 0)
		}
		for at, x := range first {
			if !slices.Equal(x.Pairs(), was[at]) {
				t.Error(at, x.Pairs(), was[at])
			}
		}
	}
}

// P3: Of neither writes into its pairs, nor what stands behind them, nor keeps them.
func TestPairsHandedIn(t *testing.T) {
	room := [][2]int{{2, 1}, {0, 1}, {2, 1}, {9, 9}, {-1, 5}}
	was := slices.Clone(room)
	r, e := rel.Of(3, room[:3]...)
	if e != api.OK || !slices.Equal(room, was) {
		t.Fatal(e, room)
	}
	if _, e := rel.Of(3, room[:4]...); e != api.ErrArg || !slices.Equal(room, was) {
		t.Fatal(e, room)
	}
	for k := range room {
		room[k] = [2]int{1, 2}
	}
	same(t, "kept", r, modelOf(3, [2]int{0, 1}, [2]int{2, 1}))
}

// scribble writes over a list and its spare room.
func scribble[T any](list []T, x T) {
	list = list[:cap(list)]
	for k := range list {
		list[k] = x
	}
}

// P3: lists that are answered are new memory, spare room too.
func TestListsAreNew(t *testing.T) {
	m := modelOf(9, [2]int{0, 1}, [2]int{0, 8}, [2]int{3, 2}, [2]int{4, 5}, [2]int{8, 7})
	r := made(t, m)
	pairs, order := m.pairs(), []int{0, 1, 3, 2, 4, 5, 6, 8, 7}
	p1, p2 := r.Pairs(), r.Pairs()
	o1, _ := r.Order()
	o2, _ := r.Order()
	scribble(p1, [2]int{7, 7})
	scribble(o1, 99)
	o3, ok := r.Order()
	if !slices.Equal(p2, pairs) || !slices.Equal(o2, order) || !slices.Equal(o3, order) || !ok {
		t.Error(p2, o2, o3, ok)
	}
	same(t, "r", r, m)
}

// P4: two relations made alike are two: what is done to one is not seen in the other.
func TestTwoRelations(t *testing.T) {
	a, b := fine(t)(rel.New(3)), fine(t)(rel.New(3))
	a.Add(0, 2)
	same(t, "b", b, modelOf(3))
	same(t, "a", a, modelOf(3, [2]int{0, 2}))
}

// P13.1: what is asked hangs on what was added, not on what was asked ahead of it.
func TestAddBehindQuestions(t *testing.T) {
	r := rand.New(rand.NewSource(141))
	for _, n := range []int{3, 20, 64} {
		x, m := fine(t)(rel.New(n)), modelOf(n)
		for range 2 * n {
			p := [2]int{r.Intn(n), r.Intn(n)}
			m.in[p] = true
			x.Add(p[0], p[1])
			a, loop := x.Loop()
			l, order := x.Order()
			wantA, wantLoop := m.loop()
			wantL, wantOrder := m.order()
			if a != wantA || loop != wantLoop || order != wantOrder || !slices.Equal(l, wantL) {
				t.Fatal(n, m.pairs(), a, loop, l, order)
			}
			same(t, "Closed", x.Closed(), m.closed())
		}
	}
}
