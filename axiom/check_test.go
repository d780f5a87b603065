package axiom_test

import (
	"testing"

	"understudy/api"
	"understudy/axiom"
)

// Verdicts, by what does not hold.
func holds() axiom.Verdict { return axiom.Verdict{Internal: true, External: true, Atomic: true} }
func noInternal() axiom.Verdict {
	return axiom.Verdict{External: true, Atomic: true}
}
func noExternal() axiom.Verdict {
	return axiom.Verdict{Internal: true, Atomic: true}
}
func noAtomic() axiom.Verdict {
	return axiom.Verdict{Internal: true, External: true}
}

// The chapter's table of examples, line by line.
func TestExamples(t *testing.T) {
	full := fence(api.FenceFull)
	y2 := api.Event{Kind: api.EvWrite, Addr: y, Value: 1, Stamp: 2}
	ry2 := api.Event{Kind: api.EvRead, Addr: y, Value: 1, Stamp: 2}
	last := api.Event{Kind: api.EvWrite, Addr: x, Value: 1, Stamp: 2, Ex: true}
	other := api.Event{Kind: api.EvWrite, Addr: x, Value: 2, Stamp: 1}
	for k, c := range []struct {
		l    []api.Event
		want axiom.Verdict
	}{
		{cores([]api.Event{w(x, 1), r(y, 0)}, []api.Event{y2, r(x, 0)}), holds()},
		{cores([]api.Event{w(x, 1), full, r(y, 0)}, []api.Event{y2, full, r(x, 0)}), noExternal()},
		{cores([]api.Event{w(x, 1), y2}, []api.Event{ry2, r(x, 0)}), holds()},
		{cores([]api.Event{w(x, 1), rel(y2)}, []api.Event{acq(ry2, 2), r(x, 0)}), noExternal()},
		{one(w(x, 1), r(x, 0)), noInternal()},
		{cores([]api.Event{ex(r(x, 0)), last}, []api.Event{other}), noAtomic()},
	} {
		if v := check(t, c.l); v != c.want {
			t.Error(k, v, c.want)
		}
	}
}

// P14.3: Internal: of one address and one core: what is read and written behind each other; of two addresses, or two cores, nothing is asked.
func TestInternal(t *testing.T) {
	for k, c := range []struct {
		l    []api.Event
		want axiom.Verdict
	}{
		{one(w(x, 1), r(x, 1)), holds()},
		{one(r(x, 1), w(x, 1)), noInternal()},
		{one(w(x, 1), w(x, 2)), holds()},
		{one(w(x, 2), w(x, 1)), noInternal()},
		{one(w(x, 2), w(y, 1)), holds()},
		{one(w(x, 1), w(x, 2), r(x, 1)), noInternal()},
		{one(w(x, 1), w(x, 2), r(x, 2)), holds()},
		{one(w(x, 1), r(x, 1), w(x, 2)), holds()},
		// two reads of what another core writes, in its order and against it
		{cores([]api.Event{w(x, 1)}, []api.Event{r(x, 0), r(x, 1)}), holds()},
		{cores([]api.Event{w(x, 1)}, []api.Event{r(x, 1), r(x, 0)}), noInternal()},
		{cores([]api.Event{w(x, 1)}, []api.Event{w(x, 2)}, []api.Event{r(x, 1), r(x, 2)}), holds()},
		{cores([]api.Event{w(x, 1)}, []api.Event{w(x, 2)}, []api.Event{r(x, 2), r(x, 1)}), noInternal()},
		{cores([]api.Event{w(x, 1)}, []api.Event{w(x, 2), r(x, 1)}), noInternal()},
		{cores([]api.Event{w(x, 2)}, []api.Event{w(x, 1), r(x, 2)}), holds()},
		{cores([]api.Event{w(x, 2)}, []api.Event{r(x, 2), w(x, 1)}), noInternal()},
	} {
		if v := check(t, c.l); v != c.want {
			t.Error(k, v, c.want)
		}
	}
}

// P14.3: Atomic: a write of another core between a pair of rmw; its own core's, one of another address, or one outside, is none.
func TestAtomic(t *testing.T) {
	pair := func(from, to int) []api.Event { return []api.Event{ex(r(x, from)), ex(w(x, to))} }
	for k, c := range []struct {
		l    []api.Event
		want bool
	}{
		{cores(pair(0, 2), []api.Event{w(x, 1)}), false},
		{cores(pair(0, 1), []api.Event{w(x, 2)}), true},
		{cores(pair(1, 2), []api.Event{w(x, 1)}), true},
		{cores(pair(1, 3), []api.Event{w(x, 1), w(x, 2)}), false},
		{cores(pair(0, 2), []api.Event{w(y, 1)}), true},
		{one(ex(r(x, 0)), w(x, 1), ex(w(x, 2))), true},
		{cores([]api.Event{ex(r(x, 0)), w(x, 2)}, []api.Event{w(x, 1)}), true},
		{cores([]api.Event{r(x, 0), ex(w(x, 2))}, []api.Event{w(x, 1)}), true},
		{cores([]api.Event{ex(r(x, 0)), ex(r(x, 0)), ex(w(x, 2))}, []api.Event{w(x, 1)}), false},
		{cores([]api.Event{ex(r(x, 0)), ex(r(x, 1)), ex(w(x, 2))}, []api.Event{w(x, 1)}), true},
		{cores(pair(0, 1), pair(0, 2)), false},
		{cores(pair(0, 1), pair(1, 2)), true},
		// own write, another core's, own one
		{cores([]api.Event{ex(r(x, 0)), w(x, 1), ex(w(x, 3))}, []api.Event{w(x, 2)}), false},
		{cores([]api.Event{w(x, 5)}, pair(0, 2), []api.Event{w(x, 1), w(x, 3)}), false},
	} {
		if v := check(t, c.l); v.Atomic != c.want {
			t.Error(k, v)
		}
	}
}

// message is: data, the flag; the flag, the data, which is not there yet. between are what stands between the two of each core, with what becomes of the second read.
func message(first []api.Event, flag api.Event, seen api.Event, second []api.Event, data api.Event) []api.Event {
	return cores(append(append([]api.Event{w(x, 1)}, first...), flag), append(append([]api.Event{seen}, second...), data))
}

// P14.3: External: messages, with what orders the writer, and what orders the reader.
func TestMessages(t *testing.T) {
	flag, seen, data := w(y, 1), r(y, 1), r(x, 0)
	only := func(e ...api.Event) []api.Event { return e }
	full, ld, st := fence(api.FenceFull), fence(api.FenceLd), fence(api.FenceSt)
	writers := []struct {
		first  []api.Event
		flag   api.Event
		orders bool
	}{
		{nil, flag, false}, {only(ld), flag, false}, {only(isb()), flag, false},
		{only(st), flag, true}, {only(full), flag, true}, {nil, rel(flag), true},
	}
	readers := []struct {
		seen   api.Event
		second []api.Event
		data   api.Event
		orders bool
	}{
		{seen, nil, data, false}, {seen, only(st), data, false}, {seen, only(isb()), data, false},
		{seen, nil, ctl(data, 0), false}, {seen, only(isb()), ctl(data, 0), false},
		{seen, nil, acq(data, 2), false}, {seen, only(adr(isb(), 0)), data, false},
		{seen, only(ld), data, true}, {seen, only(full), data, true},
		{acq(seen, 1), nil, data, true}, {acq(seen, 2), nil, data, true},
		{seen, nil, adr(data, 0), true}, {seen, nil, dat(data, 0), true},
		{seen, only(ctl(isb(), 0)), data, true}, {seen, only(adr(r(0x3000, 0), 0), isb()), data, true},
		{seen, only(adr(r(0x3000, 0), 0)), data, false},
		{seen, only(dat(w(0x3000, 1), 0), r(0x3000, 1)), adr(data, 2), true},
		{seen, only(ctl(w(0x3000, 1), 0), r(0x3000, 1)), adr(data, 2), false},
	}
	for a, wr := range writers {
		for b, rd := range readers {
			want := holds()
			if wr.orders && rd.orders {
				want = noExternal()
			}
			l := message(wr.first, wr.flag, rd.seen, rd.second, rd.data)
			if v := same(t, l); v != want {
				t.Error(a, b, v, want)
			}
		}
	}
}

// P14.3: External: shapes of two, three and four cores, weak and strong.
func TestShapes(t *testing.T) {
	full := fence(api.FenceFull)
	type lists = [][]api.Event
	for k, c := range []struct {
		l    lists
		want axiom.Verdict
	}{
		// each one's store, then a load of the other's
		{lists{{w(x, 1), fence(api.FenceLd), r(y, 0)}, {w(y, 1), fence(api.FenceLd), r(x, 0)}}, holds()},
		{lists{{w(x, 1), fence(api.FenceSt), r(y, 0)}, {w(y, 1), fence(api.FenceSt), r(x, 0)}}, holds()},
		{lists{{w(x, 1), full, r(y, 0)}, {w(y, 1), r(x, 0)}}, holds()},
		{lists{{rel(w(x, 1)), acq(r(y, 0), 2)}, {rel(w(y, 1)), acq(r(x, 0), 2)}}, noExternal()},
		{lists{{rel(w(x, 1)), acq(r(y, 0), 1)}, {rel(w(y, 1)), acq(r(x, 0), 1)}}, holds()},
		// each one's load, then a store for the other's load
		{lists{{r(x, 1), w(y, 1)}, {r(y, 1), w(x, 1)}}, holds()},
		{lists{{r(x, 1), dat(w(y, 1), 0)}, {r(y, 1), w(x, 1)}}, holds()},
		{lists{{r(x, 1), dat(w(y, 1), 0)}, {r(y, 1), dat(w(x, 1), 0)}}, noExternal()},
		{lists{{r(x, 1), ctl(w(y, 1), 0)}, {r(y, 1), adr(w(x, 1), 0)}}, noExternal()},
		{lists{{acq(r(x, 1), 1), w(y, 1)}, {r(y, 1), rel(w(x, 1))}}, noExternal()},
		{lists{{r(x, 1), fence(api.FenceLd), w(y, 1)}, {r(y, 1), fence(api.FenceLd), w(x, 1)}}, noExternal()},
		{lists{{r(x, 1), fence(api.FenceSt), w(y, 1)}, {r(y, 1), fence(api.FenceSt), w(x, 1)}}, holds()},
		// stores alone
		{lists{{w(x, 2), w(y, 1)}, {w(y, 2), w(x, 1)}}, holds()},
		{lists{{w(x, 2), fence(api.FenceSt), w(y, 1)}, {w(y, 2), fence(api.FenceSt), w(x, 1)}}, noExternal()},
		{lists{{w(x, 2), fence(api.FenceLd), w(y, 1)}, {w(y, 2), fence(api.FenceLd), w(x, 1)}}, holds()},
		{lists{{w(x, 2), rel(w(y, 1))}, {w(y, 2), rel(w(x, 1))}}, noExternal()},
		// a store that overtakes, seen by its place among stores
		{lists{{w(x, 2), full, w(y, 1)}, {r(y, 1), dat(w(x, 1), 0)}}, noExternal()},
		{lists{{w(x, 2), full, w(y, 1)}, {r(y, 1), w(x, 1)}}, holds()},
		// from one to the next to the third: what one has seen is there for all
		{lists{{w(x, 1)}, {r(x, 1), dat(w(y, 1), 0)}, {r(y, 1), adr(r(x, 0), 0)}}, noExternal()},
		{lists{{w(x, 1)}, {r(x, 1), w(y, 1)}, {r(y, 1), adr(r(x, 0), 0)}}, holds()},
		// two writers, two who see them in two orders
		{lists{{w(x, 1)}, {w(y, 1)}, {r(x, 1), r(y, 0)}, {r(y, 1), r(x, 0)}}, holds()},
		{lists{{w(x, 1)}, {w(y, 1)}, {r(x, 1), adr(r(y, 0), 0)}, {r(y, 1), adr(r(x, 0), 0)}}, noExternal()},
		{lists{{w(x, 1)}, {w(y, 1)}, {acq(r(x, 1), 1), r(y, 0)}, {acq(r(y, 1), 1), r(x, 0)}}, noExternal()},
		// an exclusive pair that hands a message on
		{lists{{w(x, 1), full, w(y, 1)}, {ex(r(y, 1)), ex(w(y, 2)), acq(r(y, 2), 2), r(x, 0)}}, noExternal()},
		{lists{{w(x, 1), full, w(y, 1)}, {ex(r(y, 1)), ex(w(y, 2)), r(y, 2), r(x, 0)}}, holds()},
		// more than one thing does not hold
		{lists{{r(x, 1), full, w(x, 1)}}, noInternal()},
		{lists{{w(x, 1), full, r(y, 0)}, {w(y, 1), full, r(x, 0), r(y, 0)}}, axiom.Verdict{Atomic: true}},
		{lists{{ex(r(x, 0)), ex(w(x, 2))}, {w(x, 1), r(x, 0)}}, axiom.Verdict{External: true}},
	} {
		if v := same(t, cores(c.l...)); v != c.want {
			t.Error(k, v, c.want)
		}
	}
}
