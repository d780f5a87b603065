package gic

import "understudy/api"

// Where the kinds of interrupts begin: those from cores at 0.
const (
	firstOwn    = 16
	firstShared = 32
)

// Ranks: the less, the more urgent.
const (
	maxRank   = 255
	firstRank = 160
	noRank    = 256 // of a core that works at nothing: every rank is below it
)

func isRank(rank int) bool { return rank >= 0 && rank <= maxRank }

// source is one interrupt; goes stays 0 if it is not shared.
type source struct {
	enabled, latched, high, active bool
	rank, goes                     int
}

func (s source) pending() bool { return s.latched || s.high }

// waits says that only a core's rank may keep it away.
func (s source) waits() bool { return s.enabled && s.pending() && !s.active }

// calm gives interrupts the rank that they begin with; the rest of them is as it should be.
func calm(all []source) {
	for k := range all {
		all[k].rank = firstRank
	}
}

// worker is a core: the interrupts that are its own, and those that it works at, in the order in which it took them.
type worker struct {
	limit int
	own   [firstShared]source
	works []turn
}

// running asks the last one alone: a core takes only what is more urgent than all that it works at.
func (w *worker) running() int {
	if len(w.works) == 0 {
		return noRank
	}
	return w.works[len(w.works)-1].rank
}

func (g *Gic) hasCore(core int) bool { return core >= 0 && core < len(g.cores) }

// find is nil, if there is no such core or interrupt.
func (g *Gic) find(core, id int) *source {
	switch {
	case !g.hasCore(core) || id < 0 || id >= api.Interrupts:
		return nil
	case id >= firstShared:
		return &g.shared[id-firstShared]
	}
	return &g.cores[core].own[id]
}

// look is an interrupt as it is, with nothing in it if there is no such core or interrupt.
func (g *Gic) look(core, id int) source {
	s := g.find(core, id)
	if s == nil {
		return source{}
	}
	return *s
}

// change does to an interrupt what set says.
func (g *Gic) change(core, id int, set func(*source)) api.Errno {
	s := g.find(core, id)
	if s == nil {
		return api.ErrArg
	}
	set(s)
	return api.OK
}
