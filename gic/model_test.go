package gic_test

import (
	"math"
	"testing"

	"understudy/api"
	"understudy/gic"
)

// odd are numbers that are no core, no count of cores, no interrupt and no rank, some of which look like one in their lowest bits.
func odd() []int {
	return []int{-1, -2, -8, -64, -256, 256, 257, 1023, 1024, 1 << 16, 1 << 31, 1 << 32, 1<<32 + 1, 1<<32 + 40, 1<<62 + 1, -1 << 32, math.MaxInt, math.MinInt, math.MinInt + 1}
}

// upFrom are the odd numbers, and those from first up to a last one.
func upFrom(first, last int) []int {
	out := odd()
	for n := first; n <= last; n++ {
		out = append(out, n)
	}
	return out
}

// The kinds of deeds.
const (
	enabling = iota
	pending
	lining
	ranking
	routing
	masking
	sending
	taking
	ending
	deeds
)

// deed is one call that may change something; n is a rank, a set of targets, or 1 for true.
type deed struct{ kind, core, id, n int }

// answer is what a deed's call answers; id is Ack's, ok is Eoi's.
type answer struct {
	e  api.Errno
	id int
	ok bool
}

// apply makes the call of a deed.
func apply(g *gic.Gic, d deed) answer {
	switch d.kind {
	case enabling:
		return answer{e: g.Enable(d.core, d.id, d.n == 1)}
	case pending:
		return answer{e: g.Pend(d.core, d.id, d.n == 1)}
	case lining:
		return answer{e: g.Line(d.core, d.id, d.n == 1)}
	case ranking:
		return answer{e: g.Rank(d.core, d.id, d.n)}
	case routing:
		return answer{e: g.Route(d.id, d.core)}
	case masking:
		return answer{e: g.Mask(d.core, d.n)}
	case sending:
		return answer{e: g.Send(d.n, d.id)}
	case taking:
		return answer{id: g.Ack(d.core)}
	}
	ok, e := g.Eoi(d.core, d.id)
	return answer{e: e, ok: ok}
}

// took is an interrupt that a core took; over says that it was ended.
type took struct {
	core, id, rank int
	over           bool
}

// history is all that was ever done to a gic of so many cores, and all that cores took; what it tells is looked up there, as the chapter's words have it.
type history struct {
	cores int
	done  []deed // without an error
	taken []took
}

// same says whether a deed that names a core and an interrupt is of this one: a shared one is the same, whatever core is named.
func same(d deed, core, id int) bool { return d.id == id && (id >= 32 || d.core == core) }

// last is the n of the last deed of a kind of this interrupt, or what there was ahead of all.
func (h *history) last(kind, core, id, first int) int {
	for k := len(h.done) - 1; k >= 0; k-- {
		if d := h.done[k]; d.kind == kind && same(d, core, id) {
			return d.n
		}
	}
	return first
}

func (h *history) enabled(core, id int) bool { return h.last(enabling, core, id, 0) == 1 }

func (h *history) rank(core, id int) int { return h.last(ranking, core, id, 160) }

func (h *history) goes(id int) int {
	for k := len(h.done) - 1; k >= 0; k-- {
		if d := h.done[k]; d.kind == routing && d.id == id {
			return d.core
		}
	}
	return 0
}

func (h *history) limit(core int) int {
	for k := len(h.done) - 1; k >= 0; k-- {
		if d := h.done[k]; d.kind == masking && d.core == core {
			return d.n
		}
	}
	return 255
}

// latched goes back to what last latched it, or let it go: Pend, Send, or that it was taken (a deed whose id is what Ack answered).
func (h *history) latched(core, id int) bool {
	for k := len(h.done) - 1; k >= 0; k-- {
		switch d := h.done[k]; {
		case d.kind == pending && same(d, core, id):
			return d.n == 1
		case d.kind == sending && d.id == id && d.n>>core&1 == 1:
			return true
		case d.kind == taking && same(d, core, id):
			return false
		}
	}
	return false
}

func (h *history) pending(core, id int) bool {
	return h.latched(core, id) || h.last(lining, core, id, 0) == 1
}

// workers are the cores that work at an interrupt: of one that is not shared, this core alone counts.
func (h *history) workers(core, id int) []int {
	var out []int
	for _, w := range h.taken {
		if !w.over && w.id == id && (id >= 32 || w.core == core) {
			out = append(out, w.core)
		}
	}
	return out
}

func (h *history) running(core int) int {
	least := 256
	for _, w := range h.taken {
		if !w.over && w.core == core {
			least = min(least, w.rank)
		}
	}
	return least
}

// could says whether a core could take an interrupt, if no other one were there.
func (h *history) could(core, id int) bool {
	r := h.rank(core, id)
	return h.enabled(core, id) && h.pending(core, id) && len(h.workers(core, id)) == 0 &&
		(id < 32 || h.goes(id) == core) && r < h.limit(core) && r < h.running(core)
}

func (h *history) best(core int) (int, bool) {
	id, found := 0, false
	for k := range 64 {
		if h.could(core, k) && (!found || h.rank(core, k) < h.rank(core, id)) {
			id, found = k, true
		}
	}
	return id, found
}

// wrong says whether a deed is refused.
func (h *history) wrong(d deed) bool {
	noCore, noID := d.core < 0 || d.core >= h.cores, d.id < 0 || d.id > 63
	noRank := d.n < 0 || d.n > 255
	switch d.kind {
	case lining:
		return noCore || noID || d.id < 16
	case ranking:
		return noCore || noID || noRank
	case routing:
		return noCore || noID || d.id < 32
	case masking:
		return noCore || noRank
	case sending:
		return d.id < 0 || d.id > 15 || d.n < 0 || d.n >= 1<<h.cores
	}
	return noCore || noID
}

// does is what a deed answers, and the history with it.
func (h *history) does(d deed) answer {
	if d.kind == taking {
		return h.takes(d)
	}
	if h.wrong(d) {
		return answer{e: api.ErrArg}
	}
	h.done = append(h.done, d)
	if d.kind != ending {
		return answer{}
	}
	for k, w := range h.taken {
		if !w.over && w.core == d.core && w.id == d.id {
			h.taken[k].over = true
			return answer{ok: true}
		}
	}
	return answer{}
}

func (h *history) takes(d deed) answer {
	if d.core < 0 || d.core >= h.cores {
		return answer{id: 1023}
	}
	id, ok := h.best(d.core)
	if !ok {
		return answer{id: 1023}
	}
	h.taken = append(h.taken, took{core: d.core, id: id, rank: h.rank(d.core, id)})
	h.done = append(h.done, deed{kind: taking, core: d.core, id: id})
	return answer{id: id}
}

// state is all that the questions tell of a gic; cores past its own have their zero value.
type state struct {
	of [api.MaxCores][api.Interrupts]struct {
		enabled, pending, active bool
		rank                     int
	}
	goes [api.Interrupts]int
	each [api.MaxCores]struct {
		limit, running, best int
		any                  bool
	}
}

// asked asks for all of it, cores that are not there too.
func asked(g *gic.Gic) state {
	var s state
	for core := range api.MaxCores {
		for id := range api.Interrupts {
			o := &s.of[core][id]
			o.enabled, o.pending, o.active, o.rank = g.Enabled(core, id), g.Pending(core, id), g.Active(core, id), g.Rate(core, id)
		}
		c := &s.each[core]
		c.limit, c.running = g.Limit(core), g.Running(core)
		c.best, c.any = g.Best(core)
	}
	for id := range api.Interrupts {
		s.goes[id] = g.Goes(id)
	}
	return s
}

// told is the same of a history.
func (h *history) told() state {
	var s state
	for core := range h.cores {
		for id := range api.Interrupts {
			o := &s.of[core][id]
			o.enabled, o.pending, o.active, o.rank = h.enabled(core, id), h.pending(core, id), len(h.workers(core, id)) > 0, h.rank(core, id)
		}
		c := &s.each[core]
		c.limit, c.running = h.limit(core), h.running(core)
		c.best, c.any = h.best(core)
	}
	for id := 32; id < 64; id++ {
		s.goes[id] = h.goes(id)
	}
	return s
}

func made(t *testing.T, cores int) *gic.Gic {
	t.Helper()
	g, e := gic.New(cores)
	if g == nil || e != api.OK {
		t.Fatal("New", cores, e)
	}
	return g
}
