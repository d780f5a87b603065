package axiom_test

import (
	"math/rand"
	"slices"
	"strings"
	"testing"

	"understudy/api"
	"understudy/axiom"
)

// cores puts lists of events on cores, one a core, at the places 0, 1, 2, ..; they stand one core behind the other.
func cores(lists ...[]api.Event) []api.Event {
	var out []api.Event
	for core, l := range lists {
		for po, e := range l {
			e.Core, e.Po = core, po
			out = append(out, e)
		}
	}
	return out
}

// Two addresses.
const (
	x = 0x1000
	y = 0x2000
)

// w is a write of a Stamp, which is its Value too; r reads it (0: the first bytes, which are 0).
func w(addr uint64, stamp int) api.Event {
	return api.Event{Kind: api.EvWrite, Addr: addr, Value: uint64(stamp), Stamp: stamp}
}

func r(addr uint64, stamp int) api.Event {
	return api.Event{Kind: api.EvRead, Addr: addr, Value: uint64(stamp), Stamp: stamp}
}

func fence(kind int) api.Event { return api.Event{Kind: api.EvFence, Fence: kind} }

func isb() api.Event { return api.Event{Kind: api.EvIsb} }

func rel(e api.Event) api.Event { e.Rel = true; return e }

func acq(e api.Event, acq int) api.Event { e.Acq = acq; return e }

func ex(e api.Event) api.Event { e.Ex = true; return e }

func adr(e api.Event, places ...int) api.Event { e.Adr = places; return e }
func dat(e api.Event, places ...int) api.Event { e.Dat = places; return e }
func ctl(e api.Event, places ...int) api.Event { e.Ctl = places; return e }

// one is a list of one core.
func one(l ...api.Event) []api.Event { return cores(l) }

// found holds a relation against its pairs, told as 01 for (0, 1).
func found(t *testing.T, l []api.Event, name, pairs string) {
	t.Helper()
	var want [][2]int
	for _, p := range strings.Fields(pairs) {
		want = append(want, [2]int{int(p[0] - '0'), int(p[1] - '0')})
	}
	if p, e := axiom.Relation(l, name); e != api.OK || !slices.Equal(p, want) {
		t.Errorf("%s: %v %v, not %s", name, p, e, pairs)
	}
}

// line is a list of events with the pairs of a relation of it.
type line struct {
	l     []api.Event
	pairs string
}

// P14.2: the relations that are told of two events alone.
func TestPlainRelations(t *testing.T) {
	l := cores(
		[]api.Event{w(x, 1), w(y, 4), r(x, 3), fence(api.FenceFull), w(x, 2)},
		[]api.Event{r(x, 1), w(x, 3), r(x, 0), isb()},
	)
	found(t, l, "po", "01 02 03 04 12 13 14 23 24 34 56 57 58 67 68 78")
	found(t, l, "loc", "00 02 04 05 06 07 11 20 22 24 25 26 27 40 42 44 45 46 47 50 52 54 55 56 57 60 62 64 65 66 67 70 72 74 75 76 77")
	found(t, l, "rf", "05 62")
	found(t, l, "rfi", "")
	found(t, l, "rfe", "05 62")
	found(t, l, "co", "04 06 46")
	found(t, l, "coi", "04")
	found(t, l, "coe", "06 46")
	found(t, l, "fr", "54 56 70 74 76")
	found(t, l, "fri", "56 76")
	found(t, l, "fre", "54 70 74")
	found(t, l, "obs", "05 06 46 54 62 70 74")
	found(t, l, "rmw", "")
	found(t, l, "aob", "")
	l = one(r(x, 1), w(x, 1))
	found(t, l, "rf", "10")
	found(t, l, "rfi", "10")
	found(t, l, "fr", "")
	found(t, l, "obs", "")
}

// P14.2: places stand for the order of the core, not where an event stands in the list.
func TestPoIsNotTheList(t *testing.T) {
	l := []api.Event{
		{Core: 2, Po: 9, Kind: api.EvIsb}, {Core: 2, Po: 3, Kind: api.EvIsb},
		{Core: 1, Po: 5, Kind: api.EvIsb}, {Core: 2, Po: 4, Kind: api.EvIsb}, {Core: 1, Po: 0, Kind: api.EvIsb},
	}
	found(t, l, "po", "10 13 30 42")
}

// P14.2: dependencies: from the read at a place to the event, of each kind, once though it is told twice; of another core's read at that place nothing.
func TestDependencyRelations(t *testing.T) {
	l := cores(
		[]api.Event{r(x, 0), r(y, 0), adr(dat(w(x, 1), 0), 1, 1), ctl(fence(api.FenceLd), 1, 0), adr(isb(), 0), dat(ctl(adr(r(x, 1), 1), 0), 1)},
		[]api.Event{r(x, 0), r(x, 0), isb()},
	)
	found(t, l, "addr", "04 12 15")
	found(t, l, "data", "02 15")
	found(t, l, "ctrl", "03 05 13")
}

// P14.2: rmw: the first exclusive write behind an exclusive read, if it is of its address, and no other exclusive read stands between.
func TestRmw(t *testing.T) {
	a, b := ex(r(x, 0)), ex(w(x, 1))
	for _, c := range []line{
		{one(a, b), "01"},
		{one(b, a), ""},
		{one(r(x, 0), b), ""},
		{one(a, w(x, 1)), ""},
		{one(a, ex(w(y, 1))), ""},
		{one(a, ex(w(y, 1)), b), ""},
		{one(a, b, ex(w(x, 2))), "01"},
		{one(a, a, b), "12"},
		{one(a, ex(r(y, 0)), b), ""},
		{one(a, ex(r(y, 0)), ex(w(y, 1)), b), "12"},
		{one(a, r(x, 0), r(y, 0), w(y, 1), w(x, 2), fence(api.FenceFull), isb(), b), "07"},
		{one(a, b, a, ex(w(x, 2))), "01 23"},
		{cores([]api.Event{a}, []api.Event{b}), ""},
		{cores([]api.Event{a, b}, []api.Event{a, ex(w(x, 2))}), "01 23"},
	} {
		found(t, c.l, "rmw", c.pairs)
	}
	// Behind it is by po, not by the list; and the exclusive read of another core is in nobody's way.
	l := one(b, a)
	l[0].Po, l[1].Po = 7, 2
	found(t, l, "rmw", "10")
	l = append(l, api.Event{Core: 1, Po: 4, Kind: api.EvRead, Addr: x, Ex: true})
	found(t, l, "rmw", "10")
	l[2].Core = 0
	found(t, l, "rmw", "20")
}

// P14.2: dob, one way after the other, and what is just none of them.
func TestDob(t *testing.T) {
	rx, ry, wy := r(x, 0), r(y, 0), w(y, 1)
	for _, c := range []line{
		{one(rx, ry, wy), ""},
		{one(rx, adr(ry, 0)), "01"},
		{one(rx, adr(wy, 0)), "01"},
		{one(rx, adr(isb(), 0)), "01"},
		{one(rx, dat(ry, 0)), "01"},
		{one(rx, dat(wy, 0)), "01"},
		{one(rx, dat(fence(api.FenceSt), 0)), "01"},
		// ctrl to W alone
		{one(rx, ctl(wy, 0)), "01"},
		{one(rx, ctl(ry, 0)), ""},
		{one(rx, ctl(fence(api.FenceLd), 0)), ""},
		{one(rx, ctl(isb(), 0)), ""},
		// ctrl to an isb, then po to R
		{one(rx, ctl(isb(), 0), ry, wy), "02"},
		{one(rx, isb(), ctl(ry, 0)), ""},
		{one(rx, ctl(isb(), 0), isb(), fence(api.FenceSt)), ""},
		{one(rx, dat(isb(), 0), ry), "01"},
		{one(rx, ctl(fence(api.FenceSt), 0), ry), ""},
		{one(rx, ctl(ry, 0), isb(), r(y, 0)), ""},
		// addr, then po to an isb, then po to R; addr itself to an isb is not enough
		{one(rx, adr(ry, 0), isb(), r(y, 0)), "01 03"},
		{one(rx, adr(ry, 0), fence(api.FenceSt), isb(), r(y, 0), isb()), "01 04"},
		{one(rx, adr(ry, 0), r(y, 0), isb()), "01"},
		{one(rx, adr(isb(), 0), ry), "01"},
		{one(rx, adr(isb(), 0), isb(), ry), "01 03"},
		{one(rx, dat(ry, 0), isb(), r(y, 0)), "01"},
		// addr, then po to W
		{one(rx, adr(ry, 0), r(y, 0), wy), "01 03"},
		{one(rx, dat(ry, 0), r(y, 0), wy), "01"},
		{one(rx, ctl(ry, 0), wy), ""},
		// ctrl or data, then coi
		{one(rx, dat(wy, 0), w(y, 2), r(y, 0)), "01 02"},
		{one(rx, ctl(wy, 0), w(y, 2), r(y, 0)), "01 02"},
		{one(rx, dat(w(y, 2), 0), w(y, 1)), "01"},
		{one(rx, dat(wy, 0), w(x, 2)), "01"},
		{cores([]api.Event{rx, dat(wy, 0)}, []api.Event{w(y, 2)}), "01"},
		// addr or data, then rfi
		{one(rx, adr(wy, 0), r(y, 1)), "01 02"},
		{one(rx, dat(wy, 0), r(y, 1)), "01 02"},
		{one(rx, ctl(wy, 0), r(y, 1)), "01"},
		{cores([]api.Event{rx, dat(wy, 0)}, []api.Event{r(y, 1)}), "01"},
		{one(rx, dat(wy, 0), r(y, 0)), "01"},
		// coi leads back, if the later write has the lesser Stamp; rfi too
		{one(rx, w(y, 2), ctl(w(y, 1), 0)), "01 02"},
		{one(rx, r(y, 1), dat(wy, 0)), "01 02"},
	} {
		found(t, c.l, "dob", c.pairs)
	}
}

// P14.2: aob: rmw, and from its write by rfi to a read that acquires.
func TestAob(t *testing.T) {
	a, b := ex(r(x, 0)), ex(w(x, 1))
	for _, c := range []line{
		{one(a, b), "01"},
		{one(a, b, r(x, 1)), "01"},
		{one(a, b, acq(r(x, 1), 1)), "01 12"},
		{one(a, b, acq(r(x, 1), 2)), "01 12"},
		{one(a, b, acq(r(x, 0), 2)), "01"},
		{one(a, b, acq(r(y, 0), 2)), "01"},
		{one(b, acq(r(x, 1), 2)), ""},
		{one(r(x, 0), b, acq(r(x, 1), 2)), ""},
		{one(a, w(x, 1), acq(r(x, 1), 2)), ""},
		{one(a, b, w(x, 2), acq(r(x, 2), 2)), "01"},
		{cores([]api.Event{a, b}, []api.Event{acq(r(x, 1), 2)}), "01"},
		{one(a, b, acq(r(x, 1), 2), acq(r(x, 1), 1), ex(acq(r(x, 1), 1)), ex(w(x, 2))), "01 12 13 14 45"},
	} {
		found(t, c.l, "aob", c.pairs)
	}
}

// P14.2: bob: fences between each two kinds of accesses, and what stands nearby.
func TestBobFences(t *testing.T) {
	rx, wx, ry, wy := r(x, 0), w(x, 1), r(y, 0), w(y, 1)
	full, ld, st := fence(api.FenceFull), fence(api.FenceLd), fence(api.FenceSt)
	for _, c := range []line{
		{one(rx, ry, wx, wy), ""},
		{one(rx, wx, full, ry, wy), "03 04 13 14"},
		{one(rx, wx, ld, ry, wy), "03 04"},
		{one(rx, wx, st, ry, wy), "14"},
		{one(rx, wx, isb(), ry, wy), ""},
		{one(isb(), full, isb()), "02"},
		{one(isb(), st, isb()), ""},
		{one(isb(), ld, isb()), ""},
		{one(rx, ld, isb(), st), "02 03"},
		{one(wx, st, isb(), ld), ""},
		{one(st, full, ld), "02"},
		{one(full, rx), ""},
		{one(rx, full), ""},
		{one(rx, ld, full), "02"},
		{cores([]api.Event{rx, full}, []api.Event{full, ry}), ""},
	} {
		found(t, c.l, "bob", c.pairs)
	}
}

// P14.2: bob: accesses that acquire or release.
func TestBobAccesses(t *testing.T) {
	rx, wx, ry, wy := r(x, 0), w(x, 1), r(y, 0), w(y, 1)
	for _, c := range []line{
		// A or Q, then po
		{one(wx, acq(rx, 2), ry, wy, isb(), fence(api.FenceSt)), "12 13 14 15"},
		{one(wx, acq(rx, 1), ry, wy, isb(), fence(api.FenceSt)), "12 13 14 15"},
		// po to L
		{one(rx, wx, isb(), fence(api.FenceLd), rel(wy), ry), "04 05 14 24 34"},
		{one(rx, wx, isb(), rel(wy), ry), "03 13 23"},
		// L, then po to A, not to Q
		{one(rel(wx), ry, acq(ry, 2)), "02"},
		{one(rel(wx), acq(ry, 1), wy), "12"},
		{one(wx, acq(ry, 2)), ""},
		{one(acq(ry, 2), rel(wx)), "01"},
		// po to L, then coi
		{one(rx, rel(wy), w(y, 2)), "01 02"},
		{one(rx, rel(wy), w(x, 2)), "01"},
		{one(rx, w(y, 2), rel(wy)), "01 02 11 12"},
		{cores([]api.Event{rx, rel(wy)}, []api.Event{w(y, 2)}), "01"},
	} {
		found(t, c.l, "bob", c.pairs)
	}
}

// P14.2: ob is closed, over the ways of all four.
func TestOb(t *testing.T) {
	l := cores(
		[]api.Event{w(x, 1), fence(api.FenceFull), w(y, 1)},
		[]api.Event{r(y, 1), adr(r(x, 0), 0)},
	)
	found(t, l, "obs", "23 40")
	found(t, l, "dob", "34")
	found(t, l, "bob", "02")
	found(t, l, "ob", "00 02 03 04 20 22 23 24 30 32 33 34 40 42 43 44")
	found(t, cores([]api.Event{w(x, 1), w(y, 1)}, []api.Event{r(y, 1), r(x, 0)}), "ob", "12 30")
	found(t, cores([]api.Event{ex(r(x, 0)), ex(w(x, 1))}, []api.Event{r(x, 1), dat(w(y, 1), 0)}), "ob", "01 02 03 12 13 23")
}

// P14.2: names that are none, of a list that is right, and of none; with one that is not right its own error is told.
func TestWrongNames(t *testing.T) {
	wrong := []string{"", "x", "PO", "Po", "po ", " po", "p", "pofr", "rfx", "r", "i", "e", "loci", "poi", "poe", "addri", "rmwe", "obi", "dobs", "full", "rf\x00", "\xff", strings.Repeat("ob", 1<<16)}
	for _, name := range wrong {
		for _, l := range [][]api.Event{nil, {}, sample()} {
			if p, e := axiom.Relation(l, name); e != api.ErrArg || len(p) != 0 {
				t.Error(name, p, e)
			}
		}
		if p, e := axiom.Relation(one(r(x, 1)), name); e != api.ErrRun || len(p) != 0 {
			t.Error(name, p, e)
		}
		if p, e := axiom.Relation(make([]api.Event, 65), name); e != api.ErrLong || len(p) != 0 {
			t.Error(name, p, e)
		}
	}
	for _, name := range names() {
		if p, e := axiom.Relation(nil, name); e != api.OK || len(p) != 0 {
			t.Error(name, p, e)
		}
	}
}

// P14.2, P14.3: lists by chance of all sizes, of one core and more, against the model.
func TestByChance(t *testing.T) {
	r := rand.New(rand.NewSource(142))
	for range 3000 {
		s := shape{1 + r.Intn(4), 1 + r.Intn(3), 5 + r.Intn(6), r.Intn(11)}
		same(t, s.chance(r, 1+r.Intn(12)))
	}
	for range 30 {
		s := shape{1 + r.Intn(8), 1 + r.Intn(8), 5 + r.Intn(6), r.Intn(11)}
		same(t, s.chance(r, 40+r.Intn(25)))
	}
}

// alphabet are events of one core without Stamps and places.
func alphabet() []api.Event {
	return []api.Event{
		r(x, 0), acq(r(x, 0), 1), acq(r(x, 0), 2), ex(r(x, 0)), r(y, 0),
		w(x, 0), rel(w(x, 0)), ex(w(x, 0)), w(y, 0), isb(),
		fence(api.FenceFull), fence(api.FenceLd), fence(api.FenceSt),
	}
}

// P14.2, P14.3: all lists of three events of one core, with each dependency of the second and the third one on the first, against the model.
func TestSmall(t *testing.T) {
	all := alphabet()
	for number := range len(all) * len(all) * len(all) {
		l := one(all[number%13], all[number/13%13], all[number/169])
		for k := range l {
			if l[k].Kind == api.EvWrite {
				l[k].Stamp, l[k].Value = k+1, uint64(k+1)
			}
		}
		if l[2].Kind == api.EvRead && l[1].Kind == api.EvWrite && l[1].Addr == l[2].Addr {
			l[2].Stamp, l[2].Value = l[1].Stamp, l[1].Value
		}
		same(t, l)
		if l[0].Kind != api.EvRead {
			continue
		}
		for _, depends := range []func(api.Event, ...int) api.Event{adr, dat, ctl} {
			same(t, []api.Event{l[0], depends(l[1], 0), l[2]})
			same(t, []api.Event{l[0], l[1], depends(l[2], 0)})
		}
	}
}
