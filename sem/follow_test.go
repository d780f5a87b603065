package sem_test

import (
	"math/rand"
	"slices"
	"testing"

	"understudy/api"
	"understudy/insn"
)

// traps tells whether an instruction takes an exception, or goes back from one.
func traps(i api.Insn, w api.Want, got api.Got) bool {
	asked := w.Kind >= api.WLoad && w.Kind <= api.WStoreEx || w.Kind == api.WSysRead || w.Kind == api.WSysWrite
	return w.Kind == api.WTrap || asked && got.Fault != 0 || i.Op == api.Eret
}

// value is a register as insn tells it: 31 is the stack pointer of the level.
func value(c *api.Core, r int) *uint64 {
	if r == 31 {
		return &c.SP[c.EL]
	}
	return &c.X[r]
}

// P6.4: a register that is not written stays, and so do flags and all else that an instruction has no say in;
// the PC is 4 behind, or a branch's.
func TestStays(t *testing.T) {
	r := rand.New(rand.NewSource(64))
	for _, i := range samples(t, 300) {
		word, writes := wordOf(t, i), insn.Writes(i)
		_, flags := insn.Flags(i)
		for range 4 {
			c, got := anyCore(r), anyGot(r)
			if traps(i, begin(t, c, word), got) {
				continue
			}
			d := end(t, c, word, got)
			if branches := i.Op >= api.B && i.Op <= api.Br; d.PC != c.PC+4 && !branches {
				t.Fatalf("%+v: the PC %#x behind %#x", i, d.PC, c.PC)
			}
			for reg := range 32 {
				own := i.Op == api.Msr && i.Sys == api.SysSp0 && reg == 31
				if !slices.Contains(writes, reg) && !own && *value(&c, reg) != *value(&d, reg) {
					t.Fatalf("%+v: the register %d", i, reg)
				}
			}
			if !flags && (c.N != d.N || c.Z != d.Z || c.C != d.C || c.V != d.V) {
				t.Fatalf("%+v: the flags", i)
			}
			if c.EL != d.EL || c.Id != d.Id {
				t.Fatalf("%+v: the level, or the core", i)
			}
		}
	}
}

// strip leaves what an instruction may look at: the registers that it reads, PC, EL, flags; the event register of
// hints, and of Mrs what the system registers are.
func strip(c api.Core, i api.Insn) api.Core {
	out := api.Core{PC: c.PC, EL: c.EL, N: c.N, Z: c.Z, C: c.C, V: c.V}
	for _, r := range insn.Reads(i) {
		*value(&out, r) = *value(&c, r)
	}
	if i.Op == api.Hint {
		out.Event = c.Event
	}
	if i.Op == api.Mrs {
		out.Vbar, out.Elr, out.Spsr, out.Esr, out.Far, out.Tpidr = c.Vbar, c.Elr, c.Spsr, c.Esr, c.Far, c.Tpidr
		out.SP[0], out.Mask, out.Id = c.SP[0], c.Mask, c.Id
	}
	return out
}

// P6.4: what is not read does not matter: to what is wanted, to what is written, to flags and the PC.
func TestReadsAlone(t *testing.T) {
	r := rand.New(rand.NewSource(65))
	for _, i := range samples(t, 300) {
		word := wordOf(t, i)
		for range 4 {
			a, got := anyCore(r), anyGot(r)
			b := strip(a, i)
			w := begin(t, a, word)
			if v := begin(t, b, word); v != w {
				t.Fatalf("%+v: %+v, not %+v", i, v, w)
			}
			if traps(i, w, got) {
				continue
			}
			x, y := end(t, a, word, got), end(t, b, word, got)
			for _, reg := range insn.Writes(i) {
				if *value(&x, reg) != *value(&y, reg) {
					t.Fatalf("%+v: the register %d", i, reg)
				}
			}
			if x.PC != y.PC || x.N != y.N || x.Z != y.Z || x.C != y.C || x.V != y.V {
				t.Fatalf("%+v: the PC, or the flags", i)
			}
		}
	}
}

// P6.4: Begin changes nothing: asked again, and behind other calls, it tells the same.
func TestAgain(t *testing.T) {
	r := rand.New(rand.NewSource(67))
	for _, i := range samples(t, 20) {
		word, c, got := wordOf(t, i), anyCore(r), anyGot(r)
		w, d := begin(t, c, word), end(t, c, word, got)
		end(t, anyCore(r), word, anyGot(r))
		if v := begin(t, c, word); v != w {
			t.Fatalf("%+v: %+v, then %+v", i, w, v)
		}
		same(t, "End again", end(t, c, word, got), d)
	}
}
