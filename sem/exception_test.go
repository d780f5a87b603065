package sem_test

import (
	"testing"

	"understudy/api"
)

// P6.3: a fault of an access, or of a system register outside, is an exception; of all else it is nothing.
func TestEndFaults(t *testing.T) {
	for el := range 2 {
		for _, fault := range []int{api.Outside, api.Denied, 3, -1, 1 << 32} {
			got := api.Got{Value: 5, Ok: true, Fault: fault}
			for _, i := range accesses(1) {
				c, iss := full(el), 0x10
				if stores(i.Op) {
					iss = 0x50
				}
				same(t, "a fault", end(t, c, wordOf(t, i), got), entered(c, 0x24+el, iss, c.X[1]))
			}
			c := full(el)
			same(t, "mrs", end(t, c, wordOf(t, api.Insn{Op: api.Mrs, Sys: api.SysCnt}), got), entered(c, 0, 0, 0))
			c = full(1)
			same(t, "msr", end(t, c, wordOf(t, api.Insn{Op: api.Msr, Sys: api.SysPmr}), got), entered(c, 0, 0, 0))
			for _, i := range []api.Insn{
				{Op: api.Clrex}, {Op: api.Dmb, Imm: 3}, {Op: api.Dmb, Sub: 1, Imm: 3}, {Op: api.Isb}, {Op: api.IcIvau}, {Op: api.DcCvau}, {Op: api.Hint},
			} {
				does(t, i, got, func(*api.Core) {}, func(*api.Core) {})
			}
			does(t, api.Insn{Op: api.Mrs, Sys: api.SysTpidr}, got, func(*api.Core) {}, func(d *api.Core) { d.X[0] = d.Tpidr })
			does(t, api.Insn{Op: api.Msr, Sys: api.SysTpidr, Rd: 4}, got, func(*api.Core) {}, func(d *api.Core) { d.Tpidr = d.X[4] })
			does(t, api.Insn{Op: api.Hint, Imm: 3}, got, func(*api.Core) {}, func(d *api.Core) { d.Wait = 1 })
		}
	}
}

// P6.3: what wants an exception takes it, whatever came.
func TestEndTraps(t *testing.T) {
	for el := range 2 {
		for _, got := range []api.Got{{}, {Value: 5, Ok: true}, {Fault: api.Outside}} {
			c := full(el)
			same(t, "svc", end(t, c, 0xD4000001+0x1234<<5, got), entered(c, api.EcSvc, 0x1234, 0))
			same(t, "brk", end(t, c, 0xD4200000+0x1234<<5, got), entered(c, api.EcBrk, 0x1234, 0))
			same(t, "no instruction", end(t, c, 0xFFFFFFFF, got), entered(c, api.EcUnknown, 0, 0))
			c.X[1]++
			for _, i := range accesses(1) {
				iss := 0x21
				if stores(i.Op) {
					iss = 0x61
				}
				same(t, "a crooked address", end(t, c, wordOf(t, i), got), entered(c, 0x24+el, iss, c.X[1]))
			}
		}
	}
	for _, i := range []api.Insn{
		{Op: api.Eret}, {Op: api.IcIallu}, {Op: api.MsrMask, Imm: 2}, {Op: api.Mrs, Sys: api.SysEl}, {Op: api.Msr, Sys: api.SysDaif}, {Op: api.Msr, Sys: api.SysCnt},
	} {
		same(t, "of EL 0", end(t, full(0), wordOf(t, i), api.Got{}), entered(full(0), 0, 0, 0))
	}
	for _, i := range []api.Insn{{Op: api.Msr, Sys: api.SysMpidr}, {Op: api.Msr, Sys: api.SysIar}, {Op: api.Mrs, Sys: api.SysEoir}, {Op: api.Mrs, Sys: api.SysSgi}} {
		same(t, "of EL 1", end(t, full(1), wordOf(t, i), api.Got{}), entered(full(1), 0, 0, 0))
	}
}

// P6.3, P6.4: the chapter's syndromes, of states written out: what Esr, Far, Elr and the PC (a vector's) are, by the
// instruction and the level.
func TestEndSyndromes(t *testing.T) {
	for _, row := range []struct {
		el   int
		word uint32
		got  api.Got
		esr  uint64
		far  uint64
	}{
		{1, 0xF9400020, api.Got{}, 0x96000021, 0x105},
		{0, 0xF9400020, api.Got{}, 0x92000021, 0x105},
		{1, 0xF9000020, api.Got{}, 0x96000061, 0x105},
		{0, 0xF9000020, api.Got{}, 0x92000061, 0x105},
		{1, 0xF9400000, api.Got{Fault: api.Outside}, 0x96000010, 0},
		{0, 0xF9400000, api.Got{Fault: api.Denied}, 0x92000010, 0},
		{1, 0xF9000000, api.Got{Fault: api.Outside}, 0x96000050, 0},
		{0, 0xF9000000, api.Got{Fault: api.Outside}, 0x92000050, 0},
		{1, 0x00000000, api.Got{}, 0x02000000, 0x777},
		{0, 0xFFFFFFFF, api.Got{}, 0x02000000, 0x777},
		{0, 0xD69F03E0, api.Got{}, 0x02000000, 0x777}, // eret of EL 0
		{1, 0xD4000001 + 5<<5, api.Got{}, 0x56000005, 0x777},
		{0, 0xD4000001 + 5<<5, api.Got{}, 0x56000005, 0x777},
		{1, 0xD4200000 + 0xFFFF<<5, api.Got{}, 0xF200FFFF, 0x777},
		{1, 0xD538CC00, api.Got{Fault: api.Denied}, 0x02000000, 0x777}, // mrs x0, iar
	} {
		c := api.Core{PC: 0x1000, EL: row.el, Vbar: 0x8000, Far: 0x777, Wait: 1, Event: true}
		c.X[1] = 0x105
		want := c
		want.EL, want.Mask, want.Wait, want.Elr, want.Esr, want.Far = 1, true, 0, 0x1000, row.esr, row.far
		want.PC, want.Spsr = 0x8400, 0
		if row.el == 1 {
			want.PC, want.Spsr = 0x8200, 5
		}
		if row.esr>>26 == 0x15 {
			want.Elr = 0x1004
		}
		same(t, "an exception", end(t, c, row.word, row.got), want)
	}
}

// P6.3: Eret goes back to each kind of state that may be, and of a value that is none to the place alone.
func TestEndEret(t *testing.T) {
	const eret = 0xD69F03E0
	for spsr, change := range map[uint64]func(d *api.Core){
		0:          func(d *api.Core) { d.EL, d.Mask, d.N, d.C = 0, false, false, false },
		5:          func(d *api.Core) { d.Mask, d.N, d.C = false, false, false },
		0x50000080: func(d *api.Core) { d.EL, d.Mask, d.N, d.Z, d.C, d.V = 0, true, false, true, false, true },
		0xF0000085: func(d *api.Core) { d.Mask, d.Z, d.V = true, true, true },
		4:          func(*api.Core) {},
		0x15:       func(*api.Core) {},
		0x45:       func(*api.Core) {},
		1<<32 + 5:  func(*api.Core) {},
		ones:       func(*api.Core) {},
	} {
		for _, mask := range []bool{false, true} {
			c := full(1)
			c.Spsr, c.Mask = spsr, mask
			want := c
			want.PC, want.Event = c.Elr, true
			change(&want)
			same(t, "eret", end(t, c, eret, api.Got{Value: 5, Fault: api.Outside}), want)
		}
	}
}

// P6.3: an exception, and Eret behind it: the state is at the same place (behind an SVC), as it was.
func TestEndThereAndBack(t *testing.T) {
	for el := range 2 {
		for word, further := range map[uint32]uint64{0xD4000001: 4, 0xD4200000: 0, 0x00000000: 0} {
			c := full(el)
			c.Mask, c.Wait = el == 0, 2
			in := end(t, c, word, api.Got{})
			want := c
			want.PC += further
			want.Spsr, want.Elr, want.Esr, want.Wait, want.Event = in.Spsr, in.Elr, in.Esr, 0, true
			same(t, "eret behind an exception", end(t, in, 0xD69F03E0, api.Got{}), want)
		}
	}
}
