package monitor_test

import (
	"math"
	"testing"

	"understudy/api"
	"understudy/monitor"
)

// odd are numbers that are no core and no count of cores, some of which look like one in their lowest bits.
func odd() []int {
	return []int{-1, -2, -7, -8, -9, 9, 10, 16, 64, 256, 1 << 31, 1 << 32, 1<<32 + 1, 1<<62 + 1, -1 << 32, math.MaxInt, math.MinInt, math.MinInt + 1}
}

// edges are addresses where lines begin and end, the first and the last line of all among them.
func edges() []uint64 {
	return []uint64{
		0, 1, 8, 62, 63, 64, 65, 126, 127, 128, 4095, 4096, 1<<16 - 1, 1 << 16, 1<<32 - 1, 1 << 32, 1<<32 + 64,
		1 << 58, 1<<58 + 64, 1<<63 - 1, 1 << 63, math.MaxUint64 - 64, math.MaxUint64 - 63, math.MaxUint64 - 1, math.MaxUint64,
	}
}

// The kinds of deeds.
const (
	marking = iota
	clearing
	writing
	taking
	deeds
)

type deed struct {
	kind, core int
	addr       uint64
}

// history is all that was ever done to a monitor; what it tells is looked up there, as the chapter's words have it.
type history []deed

// lineStart drops the six bits that are an address's place in its line.
func lineStart(addr uint64) uint64 { return addr &^ 63 }

// marked goes back to what last gave the core a mark or took it away; a write of another core counts only if it was of the line of the Mark ahead of it.
func (h history) marked(core int) (uint64, bool) {
	var written []uint64
	for k := len(h) - 1; k >= 0; k-- {
		d := h[k]
		switch {
		case d.kind == writing && d.core != core:
			written = append(written, lineStart(d.addr))
		case d.core != core:
		case d.kind == clearing || d.kind == taking:
			return 0, false
		case d.kind == marking:
			for _, w := range written {
				if w == lineStart(d.addr) {
					return 0, false
				}
			}
			return lineStart(d.addr), true
		}
	}
	return 0, false
}

// holds is P9.4.
func (h history) holds(core int, addr uint64) bool {
	at, is := h.marked(core)
	return is && at == lineStart(addr)
}

// lost are the other cores that have the line of an address.
func (h history) lost(cores, core int, addr uint64) []int {
	var out []int
	for other := range cores {
		if other != core && h.holds(other, addr) {
			out = append(out, other)
		}
	}
	return out
}

func made(t *testing.T, cores int) *monitor.Monitor {
	t.Helper()
	m, e := monitor.New(cores)
	if m == nil || e != api.OK {
		t.Fatal("New", cores, e)
	}
	return m
}

// state is what Marked tells of each core; those past the end have their zero value.
type state [api.MaxCores]struct {
	at uint64
	is bool
}

// asked asks for the marks of the first cores; no question may answer an error.
func asked(t *testing.T, m *monitor.Monitor, cores int) state {
	t.Helper()
	var s state
	for core := range cores {
		at, is, e := m.Marked(core)
		if e != api.OK {
			t.Fatal("asked:", core, e)
		}
		s[core].at, s[core].is = at, is
	}
	return s
}

// told is the same of a history.
func (h history) told(cores int) state {
	var s state
	for core := range cores {
		s[core].at, s[core].is = h.marked(core)
	}
	return s
}
