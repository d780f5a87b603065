package gic_test

import (
	"math/rand"
	"testing"

	"understudy/api"
	"understudy/gic"
)

// ids are the edges of the kinds of interrupts, and some between.
func ids() []int { return []int{0, 1, 14, 15, 16, 17, 27, 30, 31, 32, 33, 47, 62, 63} }

// ready is a gic of so many cores where all of them could take an interrupt: it is enabled, latched and of a rank.
func ready(t *testing.T, cores, id, rank int) *gic.Gic {
	t.Helper()
	g := made(t, cores)
	for core := range cores {
		if e, e1, e2 := g.Enable(core, id, true), g.Pend(core, id, true), g.Rank(core, id, rank); e != api.OK || e1 != api.OK || e2 != api.OK {
			t.Fatal(cores, id, rank, e, e1, e2)
		}
	}
	return g
}

func wantBest(t *testing.T, g *gic.Gic, core, id int, ok bool) {
	t.Helper()
	if n, is := g.Best(core); n != id || is != ok {
		t.Errorf("Best(%d): %d %v", core, n, is)
	}
}

func wantAck(t *testing.T, g *gic.Gic, core, id int) {
	t.Helper()
	if n := g.Ack(core); n != id {
		t.Errorf("Ack(%d): %d, not %d", core, n, id)
	}
}

func wantEoi(t *testing.T, g *gic.Gic, core, id int, ok bool) {
	t.Helper()
	if is, e := g.Eoi(core, id); is != ok || e != api.OK {
		t.Errorf("Eoi(%d, %d): %v %v", core, id, is, e)
	}
}

func wantRunning(t *testing.T, g *gic.Gic, core, rank int) {
	t.Helper()
	if r := g.Running(core); r != rank {
		t.Errorf("Running(%d): %d, not %d", core, r, rank)
	}
}

// P10.1: what a new gic of each count of cores tells, written out.
func TestNew(t *testing.T) {
	for cores := 1; cores <= 8; cores++ {
		g := made(t, cores)
		var want state
		for core := range cores {
			for id := range 64 {
				want.of[core][id].rank = 160
			}
			want.each[core].limit, want.each[core].running = 255, 256
		}
		if s := asked(g); s != want {
			t.Error(cores, s)
		}
		for core := range cores {
			wantAck(t, g, core, 1023)
			for id := range 64 {
				wantEoi(t, g, core, id, false)
			}
		}
		if asked(g) != want {
			t.Error(cores, "changed")
		}
	}
}

// P10.1: counts that may not be: ErrArg, and no gic.
func TestNewWrong(t *testing.T) {
	for _, n := range append(upFrom(9, 80), 0) {
		if g, e := gic.New(n); g != nil || e != api.ErrArg {
			t.Error(n, e)
		}
	}
}

// The chapter's table of examples, line by line, with one gic as it is told there.
func TestExamples(t *testing.T) {
	g := made(t, 2)
	if e := g.Send(2, 3); e != api.OK {
		t.Error(e)
	}
	wantBest(t, g, 1, 0, false)
	if e := g.Enable(1, 3, true); e != api.OK {
		t.Error(e)
	}
	wantBest(t, g, 1, 3, true)
	wantBest(t, g, 0, 0, false)

	wantAck(t, g, 1, 3)
	if !g.Active(1, 3) {
		t.Error("not active")
	}
	wantRunning(t, g, 1, 160)
	wantAck(t, g, 1, 1023)
	wantEoi(t, g, 1, 3, true)
	wantRunning(t, g, 1, 256)

	for _, id := range []int{40, 41} {
		if e, e1 := g.Enable(0, id, true), g.Pend(0, id, true); e != api.OK || e1 != api.OK {
			t.Error(id, e, e1)
		}
	}
	if e := g.Rank(0, 41, 20); e != api.OK {
		t.Error(e)
	}
	wantAck(t, g, 0, 41)
	wantBest(t, g, 0, 0, false)
	wantEoi(t, g, 0, 41, true)
	wantBest(t, g, 0, 40, true)

	g.Mask(0, 160)
	wantBest(t, g, 0, 0, false)
	g.Mask(0, 161)
	wantBest(t, g, 0, 40, true)

	if e, e1 := g.Line(0, 27, true), g.Enable(0, 27, true); e != api.OK || e1 != api.OK {
		t.Error(e, e1)
	}
	wantAck(t, g, 0, 27)
	wantEoi(t, g, 0, 27, true)
	if !g.Pending(0, 27) {
		t.Error("a line stays high")
	}
}

// busy is a gic in whose state each part is somewhere else than at the beginning, and its history.
func busy(t *testing.T, cores int) (*gic.Gic, *history) {
	g, h := made(t, cores), &history{cores: cores}
	for core := range cores {
		for id := range 64 {
			for _, d := range []deed{
				{enabling, core, id, (id + core) & 1}, {pending, core, id, id >> 1 & 1},
				{lining, core, id, id >> 2 & 1}, {ranking, core, id, id*3 + core},
				{routing, (id + core) % cores, id, 0}, {masking, core, id, 200 + core},
			} {
				do(t, g, h, d)
			}
		}
		do(t, g, h, deed{kind: taking, core: core})
	}
	check(t, g, h)
	return g, h
}

// do does a deed to a gic and to its history, and holds what they answer against each other.
func do(t *testing.T, g *gic.Gic, h *history, d deed) {
	t.Helper()
	want := h.does(d)
	if got := apply(g, d); got != want {
		t.Fatal(h.done, d, got, want)
	}
}

// check holds all that a gic tells against its history.
func check(t *testing.T, g *gic.Gic, h *history) {
	t.Helper()
	if got, want := asked(g), h.told(); got != want {
		t.Fatal(h.done, got, want)
	}
}

// P10.2, P2: no such core or interrupt: ErrArg, false, and nothing has changed, for each call.
func TestNoSuch(t *testing.T) {
	for _, cores := range []int{1, 2, 7, 8} {
		g, h := busy(t, cores)
		wrongCore, wrongID := upFrom(cores, 80), upFrom(64, 130)
		kinds := []int{enabling, pending, lining, ranking, routing, ending}
		for _, kind := range kinds {
			for _, n := range []int{0, 1} {
				for _, core := range wrongCore {
					for _, id := range append(ids(), wrongID...) {
						if a := apply(g, deed{kind, core, id, n}); a != (answer{e: api.ErrArg}) {
							t.Fatal(cores, kind, core, id, a)
						}
					}
				}
				for _, id := range wrongID {
					if a := apply(g, deed{kind, cores - 1, id, n}); a != (answer{e: api.ErrArg}) {
						t.Fatal(cores, kind, id, a)
					}
				}
			}
		}
		for _, core := range wrongCore {
			if e := g.Mask(core, 9); e != api.ErrArg {
				t.Error("Mask", cores, core, e)
			}
		}
		check(t, g, h)
	}
}

// P10.3, P10.4: no such core or interrupt: false, and 0; no interrupt to acknowledge.
func TestAskNoSuch(t *testing.T) {
	for _, cores := range []int{1, 2, 7, 8} {
		g, h := busy(t, cores)
		zero := func(core, id int) {
			if g.Enabled(core, id) || g.Pending(core, id) || g.Active(core, id) || g.Rate(core, id) != 0 {
				t.Error(cores, core, id)
			}
		}
		for _, core := range upFrom(cores, 80) {
			for id := range 64 {
				zero(core, id)
			}
			zero(core, 64)
			if g.Limit(core) != 0 || g.Running(core) != 0 {
				t.Error(cores, core, g.Limit(core), g.Running(core))
			}
			wantBest(t, g, core, 0, false)
			wantAck(t, g, core, 1023)
		}
		for _, id := range upFrom(64, 130) {
			for core := range cores {
				zero(core, id)
			}
			if n := g.Goes(id); n != 0 {
				t.Error("Goes", id, n)
			}
		}
		check(t, g, h)
	}
}

// P10.2: Line refuses 0 to 15, Route 0 to 31, at their edges; what they refuse changes nothing.
func TestKinds(t *testing.T) {
	g, h := made(t, 3), &history{cores: 3}
	for id := range 64 {
		line, route := api.OK, api.OK
		if id < 16 {
			line = api.ErrArg
		}
		if id < 32 {
			route = api.ErrArg
		}
		for core := range 3 {
			if a := apply(g, deed{lining, core, id, 1}); a.e != line {
				t.Error("Line", core, id, a.e)
			}
			if g.Pending(core, id) != (line == api.OK) {
				t.Error("Pending", core, id)
			}
			if a := apply(g, deed{routing, core, id, 0}); a.e != route {
				t.Error("Route", core, id, a.e)
			}
			h.does(deed{lining, core, id, 1})
			h.does(deed{routing, core, id, 0})
		}
		if n := g.Goes(id); (n == 2) != (route == api.OK) || (n == 0) != (route != api.OK) {
			t.Error("Goes", id, n)
		}
	}
	check(t, g, h)
}

// P10.2: ranks and limits are 0 to 255, all of them; others are refused, and change nothing.
func TestRanks(t *testing.T) {
	g, h := busy(t, 2)
	for rank := range 256 {
		for _, d := range []deed{{ranking, 1, 15, rank}, {ranking, 0, 63, 255 - rank}, {masking, 1, 0, rank}} {
			do(t, g, h, d)
		}
		if g.Rate(1, 15) != rank || g.Rate(1, 63) != 255-rank || g.Limit(1) != rank {
			t.Error(rank, g.Rate(1, 15), g.Rate(1, 63), g.Limit(1))
		}
	}
	for _, rank := range odd() {
		for _, id := range ids() {
			if e := g.Rank(0, id, rank); e != api.ErrArg {
				t.Error("Rank", id, rank, e)
			}
		}
		if e := g.Mask(0, rank); e != api.ErrArg {
			t.Error("Mask", rank, e)
		}
	}
	check(t, g, h)
}

// P10.2, P10.3: of those below 32 each core has its own, of the others there is one; each thing that is set touches nothing beside it.
func TestOwnAndShared(t *testing.T) {
	for _, cores := range []int{1, 2, 8} {
		for _, id := range ids() {
			for core := range cores {
				for kind := enabling; kind <= masking; kind++ {
					g, h := made(t, cores), &history{cores: cores}
					for _, n := range []int{1, 0, 1} {
						do(t, g, h, deed{kind, core, id, n})
					}
					check(t, g, h)
				}
			}
		}
	}
}

// P10.3: the same, written out for one of each kind.
func TestOneOfEachKind(t *testing.T) {
	for _, id := range []int{3, 20, 40} {
		g := made(t, 3)
		g.Enable(1, id, true)
		g.Pend(1, id, true)
		g.Rank(1, id, 7)
		for core := range 3 {
			is, rank := id == 40 || core == 1, 160
			if is {
				rank = 7
			}
			if g.Enabled(core, id) != is || g.Pending(core, id) != is || g.Rate(core, id) != rank {
				t.Error(id, core, g.Enabled(core, id), g.Pending(core, id), g.Rate(core, id))
			}
		}
		if id < 32 {
			wantAck(t, g, 1, id)
		} else {
			wantAck(t, g, 1, 1023)
			wantAck(t, g, 0, id)
		}
	}
}

// P10.2, P10.5: Send latches at the cores whose bits are there and at no other, for each count of cores and each set.
func TestSend(t *testing.T) {
	for cores := 1; cores <= 8; cores++ {
		for targets := range 1 << cores {
			g := made(t, cores)
			id := targets % 16
			want := asked(g)
			for core := range cores {
				want.of[core][id].pending = targets>>core&1 == 1
			}
			if e := g.Send(targets, id); e != api.OK {
				t.Fatal(cores, targets, id, e)
			}
			if asked(g) != want {
				t.Fatal(cores, targets, id)
			}
		}
	}
}

// P10.2: what Send refuses, and that it changes nothing then.
func TestSendWrong(t *testing.T) {
	for cores := 1; cores <= 8; cores++ {
		g, h := busy(t, cores)
		for id := range 16 {
			for _, targets := range append(odd(), 1<<cores, 1<<cores+1, 2<<cores) {
				if targets > 0 && targets < 1<<cores {
					continue
				}
				if e := g.Send(targets, id); e != api.ErrArg {
					t.Error(cores, targets, id, e)
				}
			}
		}
		for _, id := range upFrom(16, 130) {
			for _, targets := range []int{0, 1, 1<<cores - 1} {
				if e := g.Send(targets, id); e != api.ErrArg {
					t.Error(cores, targets, id, e)
				}
			}
		}
		check(t, g, h)
	}
}

// P10.2, P10.3: it is pending, if it is latched or its line is high: neither of them takes the other one away.
func TestPending(t *testing.T) {
	for _, id := range []int{16, 27, 31, 32, 63} {
		g := made(t, 2)
		latched, high := false, false
		for step, left := 0, 0x1B4E; step < 8; step, left = step+1, left>>2 {
			on := left&2 != 0
			if left&1 == 0 {
				g.Pend(1, id, on)
				latched = on
			} else {
				g.Line(1, id, on)
				high = on
			}
			if g.Pending(1, id) != (latched || high) {
				t.Error(id, step, latched, high)
			}
		}
	}
}

// P10.4: one that lacks any of what it needs is not taken; with all of it, it is.
func TestNeeds(t *testing.T) {
	for _, id := range ids() {
		for _, core := range []int{0, 1} {
			lacks := []func(g *gic.Gic){
				func(g *gic.Gic) { g.Enable(core, id, false) },
				func(g *gic.Gic) { g.Pend(core, id, false) },
				func(g *gic.Gic) { g.Mask(core, 100) },
				func(g *gic.Gic) { g.Rank(core, id, 255) },
				func(g *gic.Gic) { g.Ack(core) },
				func(g *gic.Gic) { g.Ack(core); g.Pend(core, id, true) },
				func(g *gic.Gic) { work(g, core, 99) },
			}
			if id >= 32 {
				lacks = append(lacks, func(g *gic.Gic) { g.Route(id, 1-core) })
			}
			for k, lack := range lacks {
				g := ready(t, 2, id, 100)
				g.Route(id, core)
				wantBest(t, g, core, id, true)
				lack(g)
				before := asked(g)
				wantBest(t, g, core, 0, false)
				wantAck(t, g, core, 1023)
				if asked(g) != before {
					t.Error(id, core, k, "changed")
				}
			}
		}
	}
}

// work lets a core take an interrupt of a rank that nothing else waits with.
func work(g *gic.Gic, core, rank int) {
	g.Enable(core, 18, true)
	g.Pend(core, 18, true)
	g.Rank(core, 18, rank)
	g.Ack(core)
}

// P10.4: at each rank: just below the limit, at it, and just below what the core works at, at it.
func TestBounds(t *testing.T) {
	for rank := range 255 {
		g := ready(t, 1, 5, rank)
		g.Mask(0, rank)
		wantBest(t, g, 0, 0, false)
		g.Mask(0, rank+1)
		wantBest(t, g, 0, 5, true)
		wantAck(t, g, 0, 5)
		wantRunning(t, g, 0, rank)
		g.Mask(0, 255)
		g.Enable(0, 4, true)
		g.Pend(0, 4, true)
		g.Rank(0, 4, rank)
		wantBest(t, g, 0, 0, false)
		if rank == 0 {
			continue
		}
		g.Rank(0, 4, rank-1)
		wantBest(t, g, 0, 4, true)
	}
	g := ready(t, 1, 5, 255)
	wantBest(t, g, 0, 0, false)
}

// P10.4: limits and Running ask of a core's own ones alone.
func TestOtherCore(t *testing.T) {
	g := ready(t, 2, 9, 50)
	g.Mask(1, 0)
	wantAck(t, g, 0, 9)
	wantBest(t, g, 1, 0, false)
	g.Mask(1, 255)
	wantBest(t, g, 1, 9, true)
	wantRunning(t, g, 1, 256)
	g.Mask(0, 0)
	wantAck(t, g, 1, 9)
	wantEoi(t, g, 0, 9, true)
	if g.Active(0, 9) || !g.Active(1, 9) {
		t.Error(g.Active(0, 9), g.Active(1, 9))
	}
	wantRunning(t, g, 1, 50)
}

// P10.4, P10.5: of all that wait the least rank comes first, of one rank the least number, in whatever way the ranks are dealt.
func TestOrder(t *testing.T) {
	r := rand.New(rand.NewSource(10))
	for round := range 200 {
		g, ranks := made(t, 1), 1+r.Intn(70)
		left := map[int]int{}
		for _, id := range r.Perm(64)[:r.Intn(65)] {
			left[id] = r.Intn(ranks)
			g.Enable(0, id, true)
			g.Pend(0, id, true)
			g.Rank(0, id, left[id])
		}
		for len(left) > 0 {
			first := -1
			for id := range 64 {
				if rank, is := left[id]; is && (first < 0 || rank < left[first]) {
					first = id
				}
			}
			wantBest(t, g, 0, first, true)
			wantAck(t, g, 0, first)
			wantRunning(t, g, 0, left[first])
			wantAck(t, g, 0, 1023)
			wantEoi(t, g, 0, first, true)
			delete(left, first)
		}
		if n := g.Ack(0); n != 1023 {
			t.Error(round, n)
		}
	}
}

// P10.4: what is taken is not latched any more, it is active; a line that is high keeps it pending, and so it comes again behind its end.
func TestAck(t *testing.T) {
	for _, id := range ids() {
		g := ready(t, 2, id, 160)
		before := asked(g)
		wantAck(t, g, 0, id)
		if g.Pending(0, id) || !g.Active(0, id) || g.Pending(1, id) != (id < 32) || g.Active(1, id) != (id >= 32) {
			t.Error(id)
		}
		wantEoi(t, g, 0, id, true)
		wantAck(t, g, 0, 1023)
		g.Pend(0, id, true)
		if asked(g) != before {
			t.Error(id, "not as before")
		}
		if id < 16 {
			continue
		}
		g.Line(0, id, true)
		for range 3 {
			wantAck(t, g, 0, id)
			if !g.Pending(0, id) || !g.Active(0, id) {
				t.Error(id, "a line stays high")
			}
			wantAck(t, g, 0, 1023)
			wantEoi(t, g, 0, id, true)
		}
		g.Line(0, id, false)
		if g.Pending(0, id) {
			t.Error(id, "it was latched still")
		}
	}
}

// P10.4: one that is latched while it is active is taken again behind its end, and not ahead of it, even if it is made more urgent.
func TestLatchedWhileActive(t *testing.T) {
	for _, id := range ids() {
		g := ready(t, 1, id, 100)
		wantAck(t, g, 0, id)
		g.Pend(0, id, true)
		g.Rank(0, id, 3)
		wantAck(t, g, 0, 1023)
		wantRunning(t, g, 0, 100)
		wantEoi(t, g, 0, id, true)
		wantAck(t, g, 0, id)
		wantRunning(t, g, 0, 3)
	}
}

// P10.4: a core works at an interrupt with the rank that it had then: later ranks change Rate alone.
func TestRankWhenTaken(t *testing.T) {
	g := ready(t, 1, 40, 100)
	wantAck(t, g, 0, 40)
	g.Enable(0, 41, true)
	g.Pend(0, 41, true)
	g.Rank(0, 41, 50)
	for _, rank := range []int{10, 200, 0, 255} {
		g.Rank(0, 40, rank)
		wantRunning(t, g, 0, 100)
		wantBest(t, g, 0, 41, true)
		if g.Rate(0, 40) != rank {
			t.Error(rank, g.Rate(0, 40))
		}
	}
	g.Rank(0, 41, 100)
	wantBest(t, g, 0, 0, false)
}

// P10.4: a shared one is ended by the core that took it, wherever it goes by now, disabled or not; another core's Eoi is false, and changes nothing.
func TestEoiOfAnother(t *testing.T) {
	g := ready(t, 3, 40, 100)
	g.Route(40, 1)
	wantAck(t, g, 1, 40)
	g.Route(40, 2)
	g.Pend(0, 40, true)
	wantBest(t, g, 2, 0, false)
	before := asked(g)
	for _, core := range []int{0, 2} {
		wantEoi(t, g, core, 40, false)
	}
	for id := range 64 {
		if id != 40 {
			wantEoi(t, g, 1, id, false)
		}
	}
	if asked(g) != before {
		t.Error("changed")
	}
	g.Enable(0, 40, false)
	wantEoi(t, g, 1, 40, true)
	wantEoi(t, g, 1, 40, false)
	wantRunning(t, g, 1, 256)
	wantBest(t, g, 2, 0, false)
	g.Enable(0, 40, true)
	wantBest(t, g, 1, 0, false)
	wantAck(t, g, 2, 40)
}

// P10.4, P10.5: what is more urgent interrupts what is less; whatever is ended first, Running is the least of those that are left.
func TestNested(t *testing.T) {
	nest := []int{60, 2, 33, 17, 45, 0}
	r := rand.New(rand.NewSource(11))
	for range 300 {
		g := made(t, 1)
		rank := map[int]int{}
		for k, id := range nest {
			g.Enable(0, id, true)
			rank[id] = 200 - k*20
			g.Rank(0, id, rank[id])
			g.Pend(0, id, true)
			wantAck(t, g, 0, id)
		}
		for _, k := range r.Perm(len(nest)) {
			wantEoi(t, g, 0, nest[k], true)
			delete(rank, nest[k])
			least := 256
			for _, n := range rank {
				least = min(least, n)
			}
			wantRunning(t, g, 0, least)
		}
	}
}

// P10.4: a core can work at as many as there are ranks and interrupts for.
func TestNestedDeep(t *testing.T) {
	g := made(t, 1)
	for id := range 64 {
		g.Enable(0, id, true)
		g.Pend(0, id, true)
		g.Rank(0, id, 63-id)
		wantAck(t, g, 0, id)
		wantRunning(t, g, 0, 63-id)
	}
	for id := range 64 {
		wantEoi(t, g, 0, id, true)
	}
	wantRunning(t, g, 0, 256)
}

// P10.4, P10.5: all scripts of four deeds, of one interrupt that is a core's own and of a shared one, between two cores.
func TestScripts(t *testing.T) {
	alphabet := []deed{
		{sending, 0, 7, 3}, {pending, 0, 40, 1}, {pending, 0, 7, 0}, {lining, 1, 40, 1}, {lining, 0, 40, 0},
		{routing, 1, 40, 0}, {routing, 0, 40, 0}, {ranking, 0, 40, 160}, {taking, 0, 0, 0}, {taking, 1, 0, 0},
		{ending, 0, 7, 0}, {ending, 0, 40, 0}, {ending, 1, 40, 0},
	}
	const steps = 4
	total := 1
	for range steps {
		total *= len(alphabet)
	}
	for script := range total {
		g, h := made(t, 2), &history{cores: 2}
		for _, d := range []deed{{enabling, 0, 7, 1}, {enabling, 0, 40, 1}, {ranking, 0, 40, 20}, {pending, 0, 40, 1}} {
			do(t, g, h, d)
		}
		for k, left := 0, script; k < steps; k, left = k+1, left/len(alphabet) {
			do(t, g, h, alphabet[left%len(alphabet)])
		}
		if script%7 == 0 {
			check(t, g, h)
		}
		for core := range 2 {
			id, ok := h.best(core)
			wantBest(t, g, core, id, ok)
			wantRunning(t, g, core, h.running(core))
		}
	}
}

// some is a deed of a few interrupts and ranks, so that they meet; now and then one that is refused.
func some(r *rand.Rand, cores int, few []int) deed {
	d := deed{kind: r.Intn(deeds), core: r.Intn(cores), id: few[r.Intn(len(few))], n: r.Intn(2)}
	switch {
	case d.kind == ranking || d.kind == masking:
		d.n = []int{0, 20, 21, 160, 254, 255}[r.Intn(6)]
	case d.kind == sending:
		d.n = r.Intn(1 << cores)
	case r.Intn(3) == 0:
		d.kind = taking
	case r.Intn(3) == 0:
		d.kind, d.n = enabling+r.Intn(2), 1
	}
	switch bad := append(odd(), cores, 64); r.Intn(60) {
	case 0:
		d.core = bad[r.Intn(len(bad))]
	case 1:
		d.id = bad[r.Intn(len(bad))]
	case 2:
		if d.kind == ranking || d.kind == masking || d.kind == sending && cores < 8 {
			d.n = odd()[r.Intn(len(odd()))]
		}
	}
	return d
}

// P10.2 to P10.5: long scripts of one to eight cores.
func TestHistory(t *testing.T) {
	r := rand.New(rand.NewSource(12))
	for round := range 300 {
		cores := 1 + r.Intn(8)
		g, h := made(t, cores), &history{cores: cores}
		few := r.Perm(64)[:1+r.Intn(10)]
		for step := range 150 {
			d := some(r, cores, few)
			before := g.Running(d.core)
			do(t, g, h, d)
			if d.kind == taking && g.Running(d.core) > before {
				t.Fatal("less urgent", h.done)
			}
			if (step+round)%25 == 0 {
				check(t, g, h)
			}
		}
		check(t, g, h)
		oneWorker(t, g, cores)
	}
}

// oneWorker holds that what is active is ended by just one core, and that nothing is active or worked at behind that.
func oneWorker(t *testing.T, g *gic.Gic, cores int) {
	t.Helper()
	for id := range 64 {
		for core := range cores {
			active, ended := g.Active(core, id), 0
			for other := range cores {
				if id < 32 && other != core {
					continue
				}
				if ok, _ := g.Eoi(other, id); ok {
					ended++
				}
			}
			if active != (ended == 1) || ended > 1 || g.Active(core, id) {
				t.Error(id, core, active, ended)
			}
		}
	}
	for core := range cores {
		wantRunning(t, g, core, 256)
	}
}

// P10.3, P10.4: asking changes nothing: asked twice, the answers are the same, and so are those of the calls behind.
func TestAskingChangesNothing(t *testing.T) {
	a, _ := busy(t, 8)
	b, _ := busy(t, 8)
	for range 3 {
		if asked(a) != asked(a) {
			t.Error("changed")
		}
	}
	for core := range 8 {
		if x, y := a.Ack(core), b.Ack(core); x != y {
			t.Error(core, x, y)
		}
	}
	if asked(a) != asked(b) {
		t.Error("not the same")
	}
}

// P4: two gics share nothing.
func TestTwoGics(t *testing.T) {
	a, _ := busy(t, 8)
	b, h := busy(t, 8)
	r := rand.New(rand.NewSource(13))
	for range 500 {
		apply(a, some(r, 8, ids()))
	}
	check(t, b, h)
}
