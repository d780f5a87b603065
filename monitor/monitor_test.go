package monitor_test

import (
	"math"
	"math/rand"
	"slices"
	"testing"

	"understudy/api"
	"understudy/monitor"
)

// P9.1: a new monitor has that many cores, none with a mark, and none behind them.
func TestNew(t *testing.T) {
	for cores := 1; cores <= 8; cores++ {
		m := made(t, cores)
		if s := asked(t, m, cores); s != (state{}) {
			t.Error(cores, s)
		}
		for core := range cores {
			for _, addr := range []uint64{0, 64} {
				if l, e := m.Wrote(core, addr); len(l) != 0 || e != api.OK {
					t.Error("Wrote", cores, core, addr, l, e)
				}
				if ok, e := m.Take(core, addr); ok || e != api.OK {
					t.Error("Take", cores, core, addr, ok, e)
				}
			}
		}
		if e := m.Mark(cores-1, 0); e != api.OK {
			t.Error(cores, e)
		}
		if e := m.Mark(cores, 0); e != api.ErrArg {
			t.Error(cores, e)
		}
	}
}

// P9.1: counts that may not be: ErrArg, and no monitor.
func TestNewWrong(t *testing.T) {
	for _, n := range append(odd(), 0) {
		if m, e := monitor.New(n); m != nil || e != api.ErrArg {
			t.Error(n, e)
		}
	}
}

// full is a monitor of so many cores where each has a mark: the even ones the line of 0, the others each its own.
func full(t *testing.T, cores int) *monitor.Monitor {
	m := made(t, cores)
	for core := range cores {
		m.Mark(core, uint64(core%2*core)*api.Line)
	}
	return m
}

// P9.1, P2: no such core: ErrArg, every other result 0, and nobody's mark has changed.
func TestNoCore(t *testing.T) {
	for cores := 1; cores <= 8; cores++ {
		m := full(t, cores)
		was := asked(t, m, cores)
		wrong := odd()
		for core := cores; core <= 8; core++ {
			wrong = append(wrong, core)
		}
		for _, core := range wrong {
			if e := m.Clear(core); e != api.ErrArg {
				t.Error("Clear", cores, core, e)
			}
			if at, is, e := m.Marked(core); at != 0 || is || e != api.ErrArg {
				t.Error("Marked", cores, core, at, is, e)
			}
			for _, addr := range edges() {
				if e := m.Mark(core, addr); e != api.ErrArg {
					t.Error("Mark", cores, core, addr, e)
				}
				if l, e := m.Wrote(core, addr); len(l) != 0 || e != api.ErrArg {
					t.Error("Wrote", cores, core, addr, l, e)
				}
				if ok, e := m.Take(core, addr); ok || e != api.ErrArg {
					t.Error("Take", cores, core, addr, ok, e)
				}
			}
		}
		if asked(t, m, cores) != was {
			t.Error(cores, "changed")
		}
	}
}

// The chapter's table of examples, line by line, each with a monitor of its own.
func TestExamples(t *testing.T) {
	m := made(t, 2)
	e := m.Mark(0, 100)
	at, is, e1 := m.Marked(0)
	first, e2 := m.Take(0, 64)
	second, e3 := m.Take(0, 64)
	if e != api.OK || at != 64 || !is || e1 != api.OK || !first || e2 != api.OK || second || e3 != api.OK {
		t.Error(e, at, is, e1, first, e2, second, e3)
	}
	m = made(t, 2)
	e, e1 = m.Mark(0, 8), m.Mark(1, 16)
	lost, e2 := m.Wrote(1, 0)
	first, e3 = m.Take(0, 8)
	second, e4 := m.Take(1, 16)
	if e != api.OK || e1 != api.OK || !slices.Equal(lost, []int{0}) || e2 != api.OK || first || e3 != api.OK || !second || e4 != api.OK {
		t.Error(e, e1, lost, e2, first, e3, second, e4)
	}
	m = made(t, 2)
	e = m.Mark(0, 8)
	first, e1 = m.Take(0, 64)
	at, is, e2 = m.Marked(0)
	if e != api.OK || first || e1 != api.OK || at != 0 || is || e2 != api.OK {
		t.Error(e, first, e1, at, is, e2)
	}
}

// P9.2, P9.3: lines are of 64 bytes: at every pair of edges a Mark tells where its line begins, and a Take, or another core's Wrote, meets it just if it is of the same 64 bytes.
func TestLines(t *testing.T) {
	for _, a := range edges() {
		for _, b := range edges() {
			same := a/64 == b/64
			m := made(t, 2)
			m.Mark(0, a)
			if at, is, e := m.Marked(0); at != a-a%64 || !is || e != api.OK {
				t.Errorf("Marked %x: %x %v %v", a, at, is, e)
			}
			lost, e := m.Wrote(1, b)
			if (len(lost) == 1) != same || e != api.OK {
				t.Errorf("Wrote %x %x: %v %v", a, b, lost, e)
			}
			m.Mark(0, a)
			if ok, e := m.Take(0, b); ok != same || e != api.OK {
				t.Errorf("Take %x %x: %v %v", a, b, ok, e)
			}
		}
	}
}

// P9.2: a core has one mark, the last; the line of 0 is one like all others; marking and clearing touch no other core's mark.
func TestMarkAndClear(t *testing.T) {
	m := made(t, 8)
	var want state
	for round, addr := range []uint64{200, 0, 63, math.MaxUint64, 64} {
		for core := range 8 {
			a := addr + uint64(core)*128
			if e := m.Mark(core, a); e != api.OK {
				t.Error(round, core, e)
			}
			want[core].at, want[core].is = lineStart(a), true
			if s := asked(t, m, 8); s != want {
				t.Error("Mark", round, core, s)
			}
		}
	}
	for _, core := range []int{3, 0, 7, 3, 1, 2, 4, 5, 6} {
		if e := m.Clear(core); e != api.OK {
			t.Error(core, e)
		}
		want[core].at, want[core].is = 0, false
		if s := asked(t, m, 8); s != want {
			t.Error("Clear", core, s)
		}
	}
}

// P9.2: of two Marks only the last holds, and a Mark behind a Clear holds again.
func TestMarkAgain(t *testing.T) {
	m := made(t, 1)
	m.Mark(0, 0)
	m.Mark(0, 64)
	if ok, _ := m.Take(0, 0); ok {
		t.Error("the first one is gone")
	}
	m.Mark(0, 64)
	m.Mark(0, 0)
	if ok, _ := m.Take(0, 63); !ok {
		t.Error("the last one holds")
	}
	m.Mark(0, 0)
	m.Clear(0)
	if ok, _ := m.Take(0, 0); ok {
		t.Error("cleared")
	}
	m.Clear(0)
	m.Mark(0, 0)
	if ok, _ := m.Take(0, 0); !ok {
		t.Error("marked behind a Clear")
	}
}

// P9.3: for each set of cores that have the line, and each one that writes: all others of the set lose it, and are told, rising; the writer and those with another line, or none, keep what they have.
func TestWroteSets(t *testing.T) {
	for set := range 1 << 8 {
		for writer := range 8 {
			m := made(t, 8)
			var want []int
			left := state{}
			for core := 7; core >= 0; core-- {
				switch in := set>>core&1 == 1; {
				case in:
					m.Mark(core, 0x1000+uint64(core)*8)
				case core%2 == 1:
					m.Mark(core, 0x1040)
					left[core].at, left[core].is = 0x1040, true
				}
			}
			for core := range 8 {
				switch in := set>>core&1 == 1; {
				case in && core == writer:
					left[core].at, left[core].is = 0x1000, true
				case in:
					want = append(want, core)
				}
			}
			if l, e := m.Wrote(writer, 0x103F); !slices.Equal(l, want) || e != api.OK {
				t.Fatal(set, writer, l, e)
			}
			if s := asked(t, m, 8); s != left {
				t.Fatal(set, writer, s)
			}
			if l, e := m.Wrote(writer, 0x1000); len(l) != 0 || e != api.OK {
				t.Fatal("again", set, writer, l, e)
			}
		}
	}
}

// P9.3: a core without a mark is not told as one of the line of 0.
func TestWroteZero(t *testing.T) {
	m := made(t, 8)
	m.Mark(5, 0)
	m.Mark(6, 0)
	m.Clear(6)
	if l, e := m.Wrote(0, 0); !slices.Equal(l, []int{5}) || e != api.OK {
		t.Error(l, e)
	}
	if ok, e := m.Take(7, 0); ok || e != api.OK {
		t.Error(ok, e)
	}
}

// P9.3: a Take takes the core's mark, of whatever line, and no other core's.
func TestTakeAlone(t *testing.T) {
	for _, addr := range []uint64{0, 64, math.MaxUint64} {
		for core := range 8 {
			m := full(t, 8)
			want := asked(t, m, 8)
			holds := want[core].at == lineStart(addr)
			if ok, e := m.Take(core, addr); ok != holds || e != api.OK {
				t.Error(addr, core, ok, e)
			}
			want[core].at, want[core].is = 0, false
			if s := asked(t, m, 8); s != want {
				t.Error(addr, core, s)
			}
			if ok, e := m.Take(core, addr); ok || e != api.OK {
				t.Error("again", addr, core, ok, e)
			}
		}
	}
}

// do does a deed to a monitor, holds what it answers against the history so far, and answers the longer one.
func do(t *testing.T, m *monitor.Monitor, cores int, h history, d deed) history {
	t.Helper()
	var e api.Errno
	switch d.kind {
	case marking:
		e = m.Mark(d.core, d.addr)
	case clearing:
		e = m.Clear(d.core)
	case writing:
		var l []int
		l, e = m.Wrote(d.core, d.addr)
		if !slices.Equal(l, h.lost(cores, d.core, d.addr)) {
			t.Fatal("Wrote", h, d, l)
		}
	case taking:
		var ok bool
		ok, e = m.Take(d.core, d.addr)
		if ok != h.holds(d.core, d.addr) {
			t.Fatal("Take", h, d, ok)
		}
	}
	if e != api.OK {
		t.Fatal(h, d, e)
	}
	h = append(h, d)
	if s := asked(t, m, cores); s != h.told(cores) {
		t.Fatal("Marked", h, s)
	}
	return h
}

// P9.4: all scripts of four deeds of two cores on two lines.
func TestFollows(t *testing.T) {
	const ways, steps = 2 * 2 * deeds, 4
	total := 1
	for range steps {
		total *= ways
	}
	for script := range total {
		m := made(t, 2)
		var h history
		for k, left := 0, script; k < steps; k, left = k+1, left/ways {
			d := deed{core: left % 2, addr: uint64(left/2%2) * api.Line, kind: left / 4 % deeds}
			h = do(t, m, 2, h, d)
		}
	}
}

// P9.2, P9.3, P9.4: long scripts of one to eight cores, on few lines, so that they meet.
func TestHistory(t *testing.T) {
	r := rand.New(rand.NewSource(9))
	for range 300 {
		cores := 1 + r.Intn(8)
		m := made(t, cores)
		var h history
		base := edges()[r.Intn(len(edges()))]
		for range 100 {
			d := deed{kind: r.Intn(deeds), core: r.Intn(cores), addr: base + uint64(r.Intn(160))}
			if r.Intn(3) == 0 {
				d.kind = marking
			}
			h = do(t, m, cores, h, d)
		}
	}
}

// P3: lists that were answered are new memory: what is written into them, spare room too, changes nothing, and later calls do not change them.
func TestListsAreNew(t *testing.T) {
	m := made(t, 8)
	wrote := func() []int {
		for core := range 7 {
			m.Mark(core, 0)
		}
		l, _ := m.Wrote(7, 0)
		return l
	}
	all := []int{0, 1, 2, 3, 4, 5, 6}
	first := wrote()
	second := wrote()
	for k := range first[:cap(first)] {
		first[:cap(first)][k] = 999
	}
	if third := wrote(); !slices.Equal(second, all) || !slices.Equal(third, all) {
		t.Error(second, third)
	}
	if s := asked(t, m, 8); s != (state{}) {
		t.Error(s)
	}
}

// P4: two monitors share nothing.
func TestTwoMonitors(t *testing.T) {
	a, b := full(t, 8), full(t, 8)
	was := asked(t, b, 8)
	a.Mark(0, 640)
	a.Wrote(1, 0)
	a.Take(3, 0)
	a.Clear(5)
	if asked(t, b, 8) != was {
		t.Error("changed")
	}
}

// Ways: marks are copied as a whole: what is done to a monitor does not reach one that was copied from it.
func TestCopied(t *testing.T) {
	m := full(t, 8)
	kept := *m
	was := asked(t, &kept, 8)
	m.Wrote(1, 0)
	m.Take(3, 0)
	m.Mark(5, 0)
	m.Clear(7)
	if asked(t, &kept, 8) != was || asked(t, m, 8) == was {
		t.Error(asked(t, &kept, 8), asked(t, m, 8))
	}
}
