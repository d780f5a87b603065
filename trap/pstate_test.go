package trap_test

import (
	"math"
	"testing"

	"understudy/api"
	"understudy/trap"
)

// P7.1: each part of a state has its bits.
func TestPstateEach(t *testing.T) {
	for _, row := range []struct {
		c    api.Core
		want uint64
	}{
		{api.Core{}, 0},
		{api.Core{N: true}, 0x80000000},
		{api.Core{Z: true}, 0x40000000},
		{api.Core{C: true}, 0x20000000},
		{api.Core{V: true}, 0x10000000},
		{api.Core{Mask: true}, 0x80},
		{api.Core{EL: 1}, 5},
		{api.Core{EL: 1, Mask: true}, 0x85},
		{api.Core{EL: 1, Mask: true, N: true, Z: true, C: true, V: true}, 0xF0000085},
		{full(0), 0xA0000000},
		{full(1), 0xA0000005},
	} {
		if v := trap.Pstate(row.c); v != row.want {
			t.Errorf("Pstate of %+v: %#x", row.c, v)
		}
	}
}

// P7.1: all states are taken; of one of no level there is nothing of it.
func TestPstateStates(t *testing.T) {
	for _, c := range append(states(), wrong()...) {
		if v := trap.Pstate(c); v != pstate(c) {
			t.Fatalf("Pstate of %+v: %#x", c, v)
		}
		if (c.EL == 0 || c.EL == 1) && !trap.May(trap.Pstate(c)) {
			t.Fatalf("Pstate of %+v may not be gone back to", c)
		}
	}
}

// P7.1: the chapter's examples.
func TestMayExamples(t *testing.T) {
	for v, want := range map[uint64]bool{5: true, 0x80000000: true, 4: false, 0x100: false} {
		if trap.May(v) != want {
			t.Errorf("May(%#x)", v)
		}
	}
}

// may tells it again, by a list of all 64 values that may be.
func may(spsr uint64) bool {
	for flags := range uint64(16) {
		for _, low := range []uint64{0, 5, 0x80, 0x85} {
			if spsr == flags*0x10000000+low {
				return true
			}
		}
	}
	return false
}

// P7.1: all lowest twelve bits, with each bit above them, and with several.
func TestMay(t *testing.T) {
	for low := range uint64(4096) {
		tops := []uint64{0, 0xF0000000, 0xFFFFFFFFF0000000, math.MaxUint64 &^ 0xFFF}
		for k := 12; k < 64; k++ {
			tops = append(tops, 1<<k)
		}
		for _, top := range tops {
			if got := trap.May(top | low); got != may(top|low) {
				t.Fatalf("May(%#x): %v", top|low, got)
			}
		}
	}
}
