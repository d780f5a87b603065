package axiom

import "understudy/api"

// Right tells whether events are a candidate at all.
func Right(l []api.Event) api.Errno {
	x := run(l)
	switch {
	case len(x) > api.MaxEvents:
		return api.ErrLong
	case !x.all(x.formed):
		return api.ErrArg
	case !x.all(x.agrees):
		return api.ErrRun
	}
	return api.OK
}

// all tells whether this holds of each event.
func (x run) all(holds func(a int) bool) bool {
	for a := range x {
		if !holds(a) {
			return false
		}
	}
	return true
}

// some tells whether there is an event of which this holds.
func (x run) some(holds func(a int) bool) bool {
	return !x.all(func(a int) bool { return !holds(a) })
}

// formed tells whether an event has a place of its own, and the form of its kind: no field but those that the kind has, and these as they may be.
func (x run) formed(a int) bool {
	e := x[a]
	if e.Core < 0 || e.Core >= api.MaxCores || e.Po < 0 || x.some(func(b int) bool { return a != b && x.onePlace(a, b) }) {
		return false
	}
	switch e.Kind {
	case api.EvRead:
		return e.Acq >= api.Plain && e.Acq <= api.Acq && !e.Rel && e.Fence == 0
	case api.EvWrite:
		return e.Acq == api.Plain && e.Fence == 0
	case api.EvFence:
		return isFence(e.Fence) && touchesNothing(e)
	case api.EvIsb:
		return e.Fence == 0 && touchesNothing(e)
	}
	return false
}

func isFence(fence int) bool {
	return fence == api.FenceLd || fence == api.FenceSt || fence == api.FenceFull
}

// touchesNothing tells whether all fields of accesses are nothing.
func touchesNothing(e api.Event) bool {
	return e.Addr == 0 && e.Value == 0 && e.Acq == api.Plain && !e.Rel && !e.Ex && e.Stamp == 0
}

// agrees tells whether the other events leave room for this one.
func (x run) agrees(a int) bool {
	switch {
	case x.writes(a) && !x.ownStamp(a):
		return false
	case x.reads(a) && !x.readRight(a):
		return false
	}
	return x.behindReads(a, x[a].Adr) && x.behindReads(a, x[a].Dat) && x.behindReads(a, x[a].Ctl)
}

// ownStamp tells whether a write's Stamp may be, and no other write of its address has it.
func (x run) ownStamp(a int) bool {
	return x[a].Stamp >= 1 && !x.some(func(b int) bool { return a != b && x.writes(b) && x.oneStamp(a, b) })
}

// readRight tells whether a read's Value is that of the write it read from; of the first bytes, that of each other read of them.
func (x run) readRight(a int) bool {
	if x[a].Stamp == 0 {
		return !x.some(func(b int) bool { return x.reads(b) && x.oneStamp(a, b) && x[a].Value != x[b].Value })
	}
	return x.some(func(b int) bool { return x.writes(b) && x.oneStamp(a, b) && x[a].Value == x[b].Value })
}

// behindReads tells whether each of these places is ahead of an event, and has a read of its core.
func (x run) behindReads(a int, places []int) bool {
	for _, po := range places {
		if _, there := x.readAt(x[a].Core, po); po >= x[a].Po || !there {
			return false
		}
	}
	return true
}
