package axiom

import (
	"understudy/api"
	"understudy/rel"
)

// run is a list of events as it was handed in; nothing of it is written. Its events are told by their places in it.
type run []api.Event

func (x run) reads(a int) bool  { return x[a].Kind == api.EvRead }
func (x run) writes(a int) bool { return x[a].Kind == api.EvWrite }
func (x run) isb(a int) bool    { return x[a].Kind == api.EvIsb }

// The kinds that the chapter calls A, A or Q, L.
func (x run) acquires(a int) bool { return x.reads(a) && x[a].Acq == api.Acq }
func (x run) takes(a int) bool    { return x.reads(a) && x[a].Acq != api.Plain }
func (x run) releases(a int) bool { return x.writes(a) && x[a].Rel }

func (x run) exclusive(a int) bool { return x[a].Ex }

// A full fence is one of each kind. (Where there is no fence the field is nothing.)
func (x run) full(a int) bool { return x[a].Fence == api.FenceFull }
func (x run) ld(a int) bool   { return x[a].Fence == api.FenceLd || x.full(a) }
func (x run) st(a int) bool   { return x[a].Fence == api.FenceSt || x.full(a) }

func (x run) oneCore(a, b int) bool  { return x[a].Core == x[b].Core }
func (x run) onePlace(a, b int) bool { return x.oneCore(a, b) && x[a].Po == x[b].Po }

// touches tells whether it is a read or a write.
func (x run) touches(a int) bool { return x.reads(a) || x.writes(a) }

func (x run) oneAddress(a, b int) bool {
	return x.touches(a) && x.touches(b) && x[a].Addr == x[b].Addr
}

func (x run) oneStamp(a, b int) bool { return x.oneAddress(a, b) && x[a].Stamp == x[b].Stamp }

// readAt is the read of a core at a place there, and whether there is one.
func (x run) readAt(core, po int) (int, bool) {
	for a := range x {
		if x.reads(a) && x[a].Core == core && x[a].Po == po {
			return a, true
		}
	}
	return 0, false
}

// none is a relation of the events without pairs; a list that is right is not too long for it.
func (x run) none() *rel.Rel {
	r, _ := rel.New(len(x))
	return r
}

// such has the pairs of which this holds.
func (x run) such(holds func(a, b int) bool) *rel.Rel {
	r := x.none()
	for a := range x {
		for b := range x {
			if holds(a, b) {
				r.Add(a, b)
			}
		}
	}
	return r
}

// only has each event of a kind with itself: Then it keeps the pairs that end at one, and it Then a relation those that begin at one.
func (x run) only(kind func(a int) bool) *rel.Rel {
	r := x.none()
	for a := range x {
		if kind(a) {
			r.Add(a, a)
		}
	}
	return r
}

// Relations of one list are of one size, so that rel refuses none of these.

func union(r *rel.Rel, others ...*rel.Rel) *rel.Rel {
	for _, s := range others {
		r, _ = r.Union(s)
	}
	return r
}

// chain has what leads through all of these, one behind the other.
func chain(r *rel.Rel, others ...*rel.Rel) *rel.Rel {
	for _, s := range others {
		r, _ = r.Then(s)
	}
	return r
}

func both(r, s *rel.Rel) *rel.Rel {
	out, _ := r.Inter(s)
	return out
}

func without(r, s *rel.Rel) *rel.Rel {
	out, _ := r.Minus(s)
	return out
}
