package regs_test

import (
	"math"
	"testing"

	"understudy/api"
	"understudy/regs"
)

// register is a system register that may be set: what of a number it keeps, and how a test sets it by hand.
type register struct {
	name, sys int
	keeps     uint64
	lay       func(c *api.Core, value uint64)
}

// settable are the registers that may be set, by their numbers as the words of MRS and MSR have them.
func settable() []register {
	const all = math.MaxUint64
	return []register{
		{api.SysVbar, 0x4600, 0xFFFFFFFFFFFFF800, func(c *api.Core, v uint64) { c.Vbar = v }},
		{api.SysElr, 0x4201, all, func(c *api.Core, v uint64) { c.Elr = v }},
		{api.SysSpsr, 0x4200, all, func(c *api.Core, v uint64) { c.Spsr = v }},
		{api.SysEsr, 0x4290, 0xFFFFFFFF, func(c *api.Core, v uint64) { c.Esr = v }},
		{api.SysFar, 0x4300, all, func(c *api.Core, v uint64) { c.Far = v }},
		{api.SysSp0, 0x4208, all, func(c *api.Core, v uint64) { c.SP[0] = v }},
		{api.SysTpidr, 0x5E82, all, func(c *api.Core, v uint64) { c.Tpidr = v }},
		{api.SysDaif, 0x5A11, 0x80, func(c *api.Core, v uint64) { c.Mask = v == 0x80 }},
		{api.SysNzcv, 0x5A10, 0xF0000000, func(c *api.Core, v uint64) {
			c.N, c.Z, c.C, c.V = v>>31&1 == 1, v>>30&1 == 1, v>>29&1 == 1, v>>28&1 == 1
		}},
	}
}

// P4.5: the chapter's examples.
func TestGetExamples(t *testing.T) {
	c := regs.New(3, 0)
	if v, ok := regs.Get(c, api.SysMpidr); v != 0x80000003 || !ok {
		t.Errorf("SysMpidr: %#x %v", v, ok)
	}
	if v, ok := regs.Get(c, api.SysEl); v != 4 || !ok {
		t.Error("SysEl:", v, ok)
	}
	if v, ok := regs.Get(c, api.SysIar); v != 0 || ok {
		t.Error("SysIar:", v, ok)
	}
}

// P4.5: each register tells its own field, just as it stands there.
func TestGet(t *testing.T) {
	for _, c := range states() {
		mask := uint64(0)
		if c.Mask {
			mask = 0x80
		}
		for sys, want := range map[int]uint64{
			api.SysVbar: c.Vbar, api.SysElr: c.Elr, api.SysSpsr: c.Spsr, api.SysEsr: c.Esr, api.SysFar: c.Far,
			api.SysSp0: c.SP[0], api.SysTpidr: c.Tpidr, api.SysNzcv: regs.Nzcv(c), api.SysDaif: mask,
			api.SysMpidr: 0x80000000 + uint64(c.Id), api.SysEl: uint64(c.EL) + uint64(c.EL) + uint64(c.EL) + uint64(c.EL),
		} {
			if v, ok := regs.Get(c, sys); v != want || !ok {
				t.Fatalf("Get(%+v, %#x): %#x %v, not %#x", c, sys, v, ok, want)
			}
		}
	}
}

// P4.5: the sum with an Id that is none wraps, and so does 4 times such an EL.
func TestGetWraps(t *testing.T) {
	for id, want := range map[int]uint64{
		7: 0x80000007, 8: 0x80000008, -1: 0x7FFFFFFF, 1 << 31: 0x100000000, -1 << 31: 0,
		-1<<31 - 1: 0xFFFFFFFFFFFFFFFF, math.MaxInt: 0x800000007FFFFFFF, math.MinInt: 0x8000000080000000,
	} {
		if v, ok := regs.Get(api.Core{Id: id}, api.SysMpidr); v != want || !ok {
			t.Errorf("SysMpidr of %d: %#x %v", id, v, ok)
		}
	}
	for el, want := range map[int]uint64{
		0: 0, 1: 4, 2: 8, -1: 0xFFFFFFFFFFFFFFFC, math.MaxInt: 0xFFFFFFFFFFFFFFFC, math.MinInt: 0, 1 << 62: 0,
	} {
		if v, ok := regs.Get(api.Core{EL: el}, api.SysEl); v != want || !ok {
			t.Errorf("SysEl of %d: %#x %v", el, v, ok)
		}
	}
}

// P4.5, P4.6: what was set is got, of its bits those that the register keeps, and nothing else has changed.
func TestSet(t *testing.T) {
	for _, r := range settable() {
		if r.name != r.sys {
			t.Errorf("%#x is %#x", r.sys, r.name)
		}
		for _, c := range states() {
			first := c
			for _, value := range numbers() {
				want := c
				r.lay(&want, value&r.keeps)
				d, ok := regs.Set(c, r.sys, value)
				if !ok {
					t.Fatalf("Set of %#x: false", r.sys)
				}
				same(t, "Set", d, want)
				if v, ok := regs.Get(d, r.sys); v != value&r.keeps || !ok {
					t.Fatalf("Get of Set of %#x, %#x: %#x %v", r.sys, value, v, ok)
				}
			}
			same(t, "what was handed in", c, first)
		}
	}
}

// P4.6: of two registers the one that was not set tells what it told.
func TestSetLeavesOthers(t *testing.T) {
	all := settable()
	for _, r := range all {
		for _, c := range states() {
			d, _ := regs.Set(c, r.sys, 0x123456789ABCDE7F)
			for _, other := range all {
				was, _ := regs.Get(c, other.sys)
				if v, ok := regs.Get(d, other.sys); other.sys != r.sys && (v != was || !ok) {
					t.Fatalf("Set of %#x: %#x tells %#x, not %#x", r.sys, other.sys, v, was)
				}
			}
		}
	}
}

// P4.5: of the registers of devices, and of what is no register, there is nothing; of two there is Get alone.
func TestNoSystem(t *testing.T) {
	known := map[int]bool{api.SysMpidr: true, api.SysEl: true}
	for _, r := range settable() {
		known[r.sys] = true
	}
	for _, c := range []api.Core{{}, full()} {
		for sys := -1; sys <= 1<<16; sys++ {
			if v, ok := regs.Get(c, sys); ok != known[sys] || !ok && v != 0 {
				t.Fatalf("Get of %#x: %#x %v", sys, v, ok)
			}
			set := known[sys] && sys != api.SysMpidr && sys != api.SysEl
			if d, ok := regs.Set(c, sys, math.MaxUint64); ok != set || !ok && d != (api.Core{}) {
				t.Fatalf("Set of %#x: %+v %v", sys, d, ok)
			}
		}
	}
	devices := []int{api.SysIar, api.SysEoir, api.SysPmr, api.SysSgi, api.SysCnt, api.SysCtl, api.SysCval}
	for _, sys := range append(append(odd(), devices...), api.SysVbar+1<<32, api.SysNzcv-1<<62) {
		v, got := regs.Get(full(), sys)
		d, set := regs.Set(full(), sys, 1)
		if v != 0 || got || set || d != (api.Core{}) {
			t.Errorf("%#x: %#x %v, %+v %v", sys, v, got, d, set)
		}
	}
}
