package regs_test

import (
	"testing"

	"understudy/api"
	"understudy/regs"
)

// P4.3: each flag has its bit.
func TestNzcvEach(t *testing.T) {
	for _, row := range []struct {
		c    api.Core
		want uint64
	}{
		{api.Core{}, 0},
		{api.Core{N: true}, 0x80000000},
		{api.Core{Z: true}, 0x40000000},
		{api.Core{C: true}, 0x20000000},
		{api.Core{V: true}, 0x10000000},
		{api.Core{N: true, Z: true, C: true, V: true}, 0xF0000000},
		{full(), 0xA0000000},
	} {
		if v := regs.Nzcv(row.c); v != row.want {
			t.Errorf("Nzcv of %+v: %#x", row.c, v)
		}
	}
}

// P4.3, P4.6: the flags are these bits of the number, whatever the others are; all else stays.
func TestSetNzcv(t *testing.T) {
	for _, c := range states() {
		first := c
		for _, value := range append(numbers(), 0xFFFFFFFF0FFFFFFF, 0x60000000, 0x90000000) {
			want := c
			want.N, want.Z = value/0x80000000%2 == 1, value/0x40000000%2 == 1
			want.C, want.V = value/0x20000000%2 == 1, value/0x10000000%2 == 1
			d := regs.SetNzcv(c, value)
			same(t, "SetNzcv", d, want)
			if v := regs.Nzcv(d); v != value&0xF0000000 {
				t.Fatalf("Nzcv of SetNzcv of %#x: %#x", value, v)
			}
		}
		same(t, "what was handed in", c, first)
		same(t, "SetNzcv of Nzcv", regs.SetNzcv(c, regs.Nzcv(c)), c)
	}
}

// P4.4: the chapter's examples.
func TestHoldsExamples(t *testing.T) {
	for cond, want := range map[int]bool{0: true, 1: false, 8: false, 14: true, 15: true} {
		if got, e := regs.Holds(api.Core{Z: true}, cond); got != want || e != api.OK {
			t.Error(cond, got, e)
		}
	}
}

// P4.4: all conditions of all flags, by a table that is written out: bit n of a row is for the flags NZCV = n.
func TestHolds(t *testing.T) {
	rows := [16]uint16{
		0xF0F0, 0x0F0F, // Z
		0xCCCC, 0x3333, // C
		0xFF00, 0x00FF, // N
		0xAAAA, 0x5555, // V
		0x0C0C, 0xF3F3, // C and not Z
		0xAA55, 0x55AA, // N is V
		0x0A05, 0xF5FA, // not Z, and N is V
		0xFFFF, 0xFFFF,
	}
	for cond, row := range rows {
		for flags := range 16 {
			want := row>>flags&1 == 1
			a, b := api.Core{}, full()
			a.N, a.Z, a.C, a.V = flags&8 != 0, flags&4 != 0, flags&2 != 0, flags&1 != 0
			b.N, b.Z, b.C, b.V = a.N, a.Z, a.C, a.V
			b.EL = 9
			for _, c := range []api.Core{a, b} {
				if got, e := regs.Holds(c, cond); got != want || e != api.OK {
					t.Errorf("condition %d of the flags %04b: %v %v", cond, flags, got, e)
				}
			}
		}
	}
}

// P4.4: a condition that is none.
func TestHoldsWrong(t *testing.T) {
	for _, c := range states() {
		for _, cond := range append(odd(), 16, 17, 30, 31) {
			if got, e := regs.Holds(c, cond); got || e != api.ErrArg {
				t.Fatal(cond, got, e)
			}
		}
	}
}
