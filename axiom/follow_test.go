package axiom_test

import (
	"math/rand"
	"reflect"
	"slices"
	"testing"

	"understudy/api"
	"understudy/axiom"
)

// story makes a list in which one thing happens behind the other; torn tells whether an exclusive write was done though another core had written there since the read.
type story struct {
	r    *rand.Rand
	l    []api.Event
	torn bool
	last map[uint64]api.Event // the last write of an address
	took map[int]api.Event    // a core's last exclusive access
	lost map[int]bool         // another core has written there since
}

// add puts an event behind the others: a read reads what is there, a write is the last one from now on.
func (s *story) add(e api.Event, core int) {
	e.Core, e.Po = core, 2*len(s.l)
	switch e.Kind {
	case api.EvRead:
		e.Value, e.Stamp = s.last[e.Addr].Value, s.last[e.Addr].Stamp
	case api.EvWrite:
		e.Value, e.Stamp = uint64(s.r.Intn(3)), s.last[e.Addr].Stamp+1+s.r.Intn(2)
		s.last[e.Addr] = e
		for other := range 8 {
			s.lost[other] = s.lost[other] || other != core && s.took[other].Addr == e.Addr
		}
		pair := e.Ex && s.took[core].Kind == api.EvRead && s.took[core].Addr == e.Addr
		s.torn = s.torn || pair && s.lost[core]
	}
	if e.Ex {
		s.took[core], s.lost[core] = e, false
	}
	s.l = append(s.l, e)
	for _, list := range []*[]int{&s.l[len(s.l)-1].Adr, &s.l[len(s.l)-1].Dat, &s.l[len(s.l)-1].Ctl} {
		*list = someReads(s.r, s.l, len(s.l)-1)
	}
}

func told(r *rand.Rand, sh shape, n int) *story {
	s := &story{r: r, last: map[uint64]api.Event{}, took: map[int]api.Event{}, lost: map[int]bool{}}
	for range n {
		s.add(sh.bare(r), r.Intn(sh.cores))
	}
	return s
}

// P14.4: what happens one behind the other holds in all three, unless an exclusive write is among it that came behind another core's: that is not Atomic, as the chapter's example says, and only that.
func TestOneBehindTheOther(t *testing.T) {
	r := rand.New(rand.NewSource(143))
	whole, torn := 0, 0
	for k := range 4000 {
		n := 1 + r.Intn(14)
		if k%20 == 0 {
			n = 30 + r.Intn(35)
		}
		s := told(r, shape{1 + r.Intn(4), 1 + r.Intn(3), 5 + r.Intn(6), r.Intn(11)}, n)
		want := holds()
		if s.torn {
			want = noAtomic()
			torn++
		} else {
			whole++
		}
		if v := check(t, s.l); v != want {
			t.Fatal(v, want, s.l)
		}
	}
	if whole < 1000 || torn < 100 {
		t.Error("too few", whole, torn)
	}
}

// happens tells whether the accesses of two cores can be put one behind the other, so that each read has read the last write, and Stamps rise.
func happens(first, second []api.Event, last map[uint64]int) bool {
	if len(first)+len(second) == 0 {
		return true
	}
	next := func(a, b []api.Event) bool {
		if len(a) == 0 {
			return false
		}
		e, was := a[0], last[a[0].Addr]
		if e.Kind == api.EvRead && e.Stamp != was || e.Kind == api.EvWrite && e.Stamp < was {
			return false
		}
		last[e.Addr] = e.Stamp
		defer func() { last[e.Addr] = was }()
		return happens(a[1:], b, last)
	}
	return next(first, second) || next(second, first)
}

// fenced has a full fence between each two.
func fenced(l []api.Event) []api.Event {
	var out []api.Event
	for k, e := range l {
		if k > 0 {
			out = append(out, fence(api.FenceFull))
		}
		out = append(out, e)
	}
	return out
}

// accesses are reads and writes of two addresses by chance, with Stamps that are right.
func accesses(r *rand.Rand, n int) []api.Event {
	l := make([]api.Event, n)
	for k := range l {
		l[k] = shape{1, 2, 10, 0}.bare(r)
	}
	stamped(r, l)
	return l
}

// P14.3, P14.4: with a full fence between each two accesses just what can happen one behind the other holds; without fences no less.
func TestFullFences(t *testing.T) {
	r := rand.New(rand.NewSource(144))
	yes, no, weak := 0, 0, 0
	for range 6000 {
		l := accesses(r, 2+r.Intn(6))
		first, second := l[:len(l)/2], l[len(l)/2:]
		one := happens(first, second, map[uint64]int{})
		if v := check(t, cores(fenced(first), fenced(second))); (v == holds()) != one {
			t.Fatal(one, v, first, second)
		}
		v := check(t, cores(first, second))
		switch {
		case one && v != holds():
			t.Fatal(v, first, second)
		case one:
			yes++
		case v == holds():
			weak++
		default:
			no++
		}
	}
	if yes < 100 || no < 100 || weak < 50 {
		t.Error("too few", yes, no, weak)
	}
}

// roomy is the same list with twice the places, so that something has room between each two events.
func roomy(l []api.Event) []api.Event {
	l = copied(l)
	for k := range l {
		l[k].Po = 2*l[k].Po + 1
		for _, places := range [][]int{l[k].Adr, l[k].Dat, l[k].Ctl} {
			for at := range places {
				places[at] = 2*places[at] + 1
			}
		}
	}
	return l
}

// more is a list with a fence more, Acq or Rel more, or a dependency more.
func more(r *rand.Rand, l []api.Event) []api.Event {
	l = roomy(l)
	k := r.Intn(len(l))
	switch e := &l[k]; {
	case r.Intn(3) == 0:
		barrier := fence(pick(r, api.FenceLd, api.FenceSt, api.FenceFull))
		barrier.Core, barrier.Po = e.Core, pick(r, e.Po-1, e.Po+1)
		l = slices.Insert(l, r.Intn(len(l)+1), barrier)
	case r.Intn(2) == 0 && e.Kind == api.EvRead && e.Acq < 2:
		e.Acq += 1 + r.Intn(2-e.Acq)
	case r.Intn(2) == 0 && e.Kind == api.EvWrite:
		e.Rel = true
	default:
		list := pick(r, &e.Adr, &e.Dat, &e.Ctl)
		*list = append(*list, someReads(r, l, k)...)
	}
	return l
}

// P14.4: a fence more, Acq or Rel more, a dependency more never makes anything hold that did not.
func TestMoreHoldsLess(t *testing.T) {
	r := rand.New(rand.NewSource(145))
	changed := 0
	for range 1500 {
		s := shape{2 + r.Intn(3), 2, 9, r.Intn(6)}
		l := s.chance(r, 4+r.Intn(8))
		was := check(t, l)
		if v := check(t, roomy(l)); v != was {
			t.Fatal("other places", v, was, l)
		}
		for range 6 {
			l = more(r, l)
			v := check(t, l)
			if v.Internal != was.Internal || v.Atomic != was.Atomic || v.External && !was.External {
				t.Fatal(v, was, l)
			}
			if v != was {
				changed++
			}
			was = v
		}
	}
	if changed < 100 {
		t.Error("too few", changed)
	}
}

// P14.4: the events in another order in the list: the same verdict, and the same pairs of events.
func TestAnotherOrder(t *testing.T) {
	r := rand.New(rand.NewSource(146))
	seen := map[axiom.Verdict]int{}
	for range 500 {
		l := shape{1 + r.Intn(4), 1 + r.Intn(3), 8, 8}.chance(r, 1+r.Intn(12))
		place := r.Perm(len(l))
		moved := make([]api.Event, len(l))
		for k, e := range l {
			moved[place[k]] = e
		}
		was := check(t, l)
		seen[was]++
		if v := check(t, moved); v != was {
			t.Fatal(v, was, l)
		}
		for _, name := range names() {
			p, _ := axiom.Relation(l, name)
			q, _ := axiom.Relation(moved, name)
			for k := range p {
				p[k] = [2]int{place[p[k][0]], place[p[k][1]]}
			}
			slices.SortFunc(p, func(a, b [2]int) int { return slices.Compare(a[:], b[:]) })
			if !slices.Equal(p, q) {
				t.Fatal(name, p, q, l)
			}
		}
	}
	if len(seen) < 5 {
		t.Error("too few", seen)
	}
}

// P14.4: what the cores are called, which addresses they are, and how far Stamps and places lie apart is not to be seen.
func TestOtherNames(t *testing.T) {
	r := rand.New(rand.NewSource(147))
	for range 500 {
		l := shape{1 + r.Intn(8), 1 + r.Intn(3), 8, 8}.chance(r, 1+r.Intn(12))
		other, core := roomy(l), r.Perm(8)
		for k := range other {
			e := &other[k]
			e.Core = core[e.Core]
			if e.Kind == api.EvRead || e.Kind == api.EvWrite {
				e.Addr = ^e.Addr
				e.Stamp *= 1 << 50
				e.Value += 1 << 63
			}
		}
		if v, was := check(t, other), check(t, l); v != was {
			t.Fatal(v, was, l)
		}
		for _, name := range names() {
			p, _ := axiom.Relation(l, name)
			if q, e := axiom.Relation(other, name); e != api.OK || !slices.Equal(p, q) {
				t.Fatal(name, p, q, l)
			}
		}
	}
}

// P3: nothing that is handed in is written, nor what stands behind it in its array.
func TestHandedIn(t *testing.T) {
	room := append(sample(), sample()[0], api.Event{Core: 99, Kind: -1})
	for k := range room {
		places := append(slices.Clone(room[k].Adr), 77, 78)
		room[k].Adr = places[:len(places)-2]
	}
	spare := room[3].Adr[:3]
	was, l := copied(room), room[:len(room)-2]
	for range 2 {
		same(t, l)
		refused(t, api.ErrArg, room)
	}
	if !reflect.DeepEqual(copied(room), was) || spare[1] != 77 || spare[2] != 78 {
		t.Error(room, spare)
	}
}

// P3, P4: what is answered is new memory, spare room too, and hangs on the list alone, not on what was asked ahead of it.
func TestAnswersAreNew(t *testing.T) {
	l := sample()
	for _, name := range names() {
		p, e := axiom.Relation(l, name)
		q, f := axiom.Relation(l, name)
		was := slices.Clone(q)
		for k := range p[:cap(p)] {
			p[:cap(p)][k] = [2]int{9, 9}
		}
		axiom.Check(make([]api.Event, 3))
		again, g := axiom.Relation(copied(l), name)
		if e != api.OK || f != api.OK || g != api.OK || !slices.Equal(q, was) || !slices.Equal(again, was) {
			t.Error(name, q, again, was)
		}
	}
}

// P4: what was handed in is not kept: changed behind a call, the next one tells of what it is then.
func TestNothingKept(t *testing.T) {
	l := cores([]api.Event{w(x, 1), fence(api.FenceFull), r(y, 0)}, []api.Event{w(y, 1), fence(api.FenceFull), r(x, 0)})
	for range 2 {
		if v := check(t, l); v != noExternal() {
			t.Error(v)
		}
		l[1].Fence = api.FenceLd
		if v := check(t, l); v != holds() {
			t.Error(v)
		}
		l[1].Fence = api.FenceFull
	}
}

// P1: a place told very often, in each list of each event: it ends, and counts once.
func TestManyPlaces(t *testing.T) {
	l := []api.Event{{Po: 63, Kind: api.EvRead}}
	for po := 64; po < 100; po++ {
		l = append(l, api.Event{Po: po, Kind: api.EvIsb})
	}
	places := slices.Repeat([]int{63}, 10000)
	for k := range l[1:] {
		l[k+1].Adr, l[k+1].Dat, l[k+1].Ctl = places, places, places
	}
	if p, e := axiom.Relation(l, "ctrl"); e != api.OK || len(p) != 36 {
		t.Error(len(p), e)
	}
	if v := check(t, l); v != holds() {
		t.Error(v)
	}
}
