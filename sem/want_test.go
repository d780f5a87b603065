package sem_test

import (
	"testing"

	"understudy/api"
)

// table is a state whose numbers are easily told: X1 = 16, X2 = 3, X3 = 7, X4 = 0x1234567, SP 0x100 and 0x200.
func table(el int) api.Core {
	c := api.Core{PC: 0x1000, EL: el, SP: [2]uint64{0x100, 0x200}}
	c.X[1], c.X[2], c.X[3], c.X[4], c.X[5] = 16, 3, 7, 0x1234567, 1<<64-16
	return c
}

// P6.2: what each Op wants.
func TestBeginTable(t *testing.T) {
	load, store := api.WLoad, api.WStore
	for _, row := range []struct {
		i    api.Insn
		want api.Want
	}{
		{api.Insn{Op: api.Ldr, Rn: 1}, api.Want{Kind: load, Addr: 16}},
		{api.Insn{Op: api.Ldr, Rn: 1, Imm: 32760}, api.Want{Kind: load, Addr: 32776}},
		{api.Insn{Op: api.Ldr, Rn: 5, Imm: 24}, api.Want{Kind: load, Addr: 8}},
		{api.Insn{Op: api.Ldr, Rd: 31, Rn: 1}, api.Want{Kind: load, Addr: 16}},
		{api.Insn{Op: api.LdrReg, Rn: 1, Rm: 2, Amount: 3}, api.Want{Kind: load, Addr: 40}},
		{api.Insn{Op: api.LdrReg, Rn: 1, Rm: 1}, api.Want{Kind: load, Addr: 32}},
		{api.Insn{Op: api.LdrReg, Rn: 1, Rm: 31, Amount: 3}, api.Want{Kind: load, Addr: 16}},
		{api.Insn{Op: api.LdrReg, Rn: 1, Rm: 5}, api.Want{Kind: load}},
		{api.Insn{Op: api.LdrReg, Rn: 1, Rm: 5, Amount: 3}, api.Want{Kind: load, Addr: 1<<64 - 112}},
		{api.Insn{Op: api.Ldar, Rn: 1}, api.Want{Kind: load, Addr: 16, Acq: api.Acq}},
		{api.Insn{Op: api.Ldar, Rn: 1, Sub: 1}, api.Want{Kind: load, Addr: 16, Acq: api.AcqPC}},
		{api.Insn{Op: api.Ldxr, Rn: 1}, api.Want{Kind: api.WLoadEx, Addr: 16}},
		{api.Insn{Op: api.Ldxr, Rn: 1, Sub: 1}, api.Want{Kind: api.WLoadEx, Addr: 16, Acq: api.Acq}},
		{api.Insn{Op: api.Str, Rd: 2, Rn: 1, Imm: 8}, api.Want{Kind: store, Addr: 24, Value: 3}},
		{api.Insn{Op: api.Str, Rd: 31, Rn: 1}, api.Want{Kind: store, Addr: 16}},
		{api.Insn{Op: api.StrReg, Rd: 3, Rn: 1, Rm: 2, Amount: 3}, api.Want{Kind: store, Addr: 40, Value: 7}},
		{api.Insn{Op: api.Stlr, Rd: 2, Rn: 1}, api.Want{Kind: store, Addr: 16, Value: 3, Rel: true}},
		{api.Insn{Op: api.Stxr, Rd: 2, Rn: 1, Rm: 3}, api.Want{Kind: api.WStoreEx, Addr: 16, Value: 3}},
		{api.Insn{Op: api.Stxr, Rd: 2, Rn: 1, Rm: 3, Sub: 1}, api.Want{Kind: api.WStoreEx, Addr: 16, Value: 3, Rel: true}},
		{api.Insn{Op: api.Clrex}, api.Want{Kind: api.WClear}},
		{api.Insn{Op: api.Dmb, Imm: 1}, api.Want{Kind: api.WFence, Fence: api.FenceLd}},
		{api.Insn{Op: api.Dmb, Imm: 2}, api.Want{Kind: api.WFence, Fence: api.FenceSt}},
		{api.Insn{Op: api.Dmb, Imm: 3}, api.Want{Kind: api.WFence, Fence: api.FenceFull}},
		{api.Insn{Op: api.Dmb, Imm: 1, Sub: 1}, api.Want{Kind: api.WFence, Fence: api.FenceLd, Dsb: true}},
		{api.Insn{Op: api.Dmb, Imm: 2, Sub: 1}, api.Want{Kind: api.WFence, Fence: api.FenceSt, Dsb: true}},
		{api.Insn{Op: api.Dmb, Imm: 3, Sub: 1}, api.Want{Kind: api.WFence, Fence: api.FenceFull, Dsb: true}},
		{api.Insn{Op: api.Isb}, api.Want{Kind: api.WIsb}},
		{api.Insn{Op: api.IcIvau, Rd: 4}, api.Want{Kind: api.WIcLine, Addr: 0x1234540}},
		{api.Insn{Op: api.IcIvau, Rd: 31}, api.Want{Kind: api.WIcLine}},
		{api.Insn{Op: api.DcCvau, Rd: 4}, api.Want{Kind: api.WDcLine, Addr: 0x1234540}},
		{api.Insn{Op: api.DcCvau, Rd: 5}, api.Want{Kind: api.WDcLine, Addr: 1<<64 - 64}},
		{api.Insn{Op: api.Mrs, Rd: 1, Sys: api.SysCnt}, api.Want{Kind: api.WSysRead, Sys: api.SysCnt}},
		{api.Insn{Op: api.Svc, Imm: 5}, api.Want{Kind: api.WTrap, Class: api.EcSvc, Iss: 5}},
		{api.Insn{Op: api.Svc, Imm: 65535}, api.Want{Kind: api.WTrap, Class: api.EcSvc, Iss: 65535}},
		{api.Insn{Op: api.Brk}, api.Want{Kind: api.WTrap, Class: api.EcBrk}},
		{api.Insn{Op: api.Brk, Imm: 65535}, api.Want{Kind: api.WTrap, Class: api.EcBrk, Iss: 65535}},
		{api.Insn{Op: api.Hint, Imm: 2}, api.Want{Kind: api.WWait, Value: 2}},
		{api.Insn{Op: api.Hint, Imm: 3}, api.Want{Kind: api.WWait, Value: 1}},
		{api.Insn{Op: api.Hint, Imm: 4}, api.Want{Kind: api.WSend}},
	} {
		for el := range 2 {
			if w := begin(t, table(el), wordOf(t, row.i)); w != row.want {
				t.Errorf("%+v of EL %d: %+v", row.i, el, w)
			}
		}
	}
}

// P6.2: those that want nothing.
func TestBeginNothing(t *testing.T) {
	for _, i := range []api.Insn{
		{Op: api.AddImm, Rn: 1}, {Op: api.AddReg}, {Op: api.LogReg}, {Op: api.LogImm, Amount: 1}, {Op: api.MovWide}, {Op: api.Bitfield},
		{Op: api.ShiftReg}, {Op: api.Mul}, {Op: api.Div}, {Op: api.Sel}, {Op: api.Adr, Imm: 1}, {Op: api.B, Link: true}, {Op: api.BCond},
		{Op: api.Cbz}, {Op: api.Tbz}, {Op: api.Br, Rn: 3}, {Op: api.Mrs, Sys: api.SysNzcv}, {Op: api.Msr, Sys: api.SysNzcv, Rd: 4},
		{Op: api.Mrs, Sys: api.SysTpidr}, {Op: api.Msr, Sys: api.SysTpidr, Rd: 4}, {Op: api.Hint}, {Op: api.Hint, Imm: 1}, {Op: api.Hint, Imm: 5},
	} {
		for el := range 2 {
			if w := begin(t, table(el), wordOf(t, i)); w != (api.Want{}) {
				t.Errorf("%+v of EL %d: %+v", i, el, w)
			}
		}
	}
}

// P6.2: an event that is there is not waited for, an interrupt is.
func TestBeginEvent(t *testing.T) {
	for el := range 2 {
		c := table(el)
		c.Event = true
		if w := begin(t, c, 0xD503205F); w != (api.Want{}) {
			t.Errorf("wfe: %+v", w)
		}
		if w := begin(t, c, 0xD503207F); w != (api.Want{Kind: api.WWait, Value: 1}) {
			t.Errorf("wfi: %+v", w)
		}
		if w := begin(t, c, 0xD503209F); w != (api.Want{Kind: api.WSend}) {
			t.Errorf("sev: %+v", w)
		}
	}
}

// accesses are one instruction of each kind, whose base is Rn.
func accesses(rn int) []api.Insn {
	return []api.Insn{
		{Op: api.Ldr, Rn: rn}, {Op: api.LdrReg, Rn: rn, Rm: 31}, {Op: api.Ldar, Rn: rn}, {Op: api.Ldar, Sub: 1, Rn: rn}, {Op: api.Ldxr, Rn: rn},
		{Op: api.Ldxr, Sub: 1, Rn: rn}, {Op: api.Str, Rn: rn}, {Op: api.StrReg, Rn: rn, Rm: 31}, {Op: api.Stlr, Rn: rn},
		{Op: api.Stxr, Rn: rn, Rm: 3}, {Op: api.Stxr, Sub: 1, Rn: rn, Rm: 3},
	}
}

func stores(op int) bool {
	return op == api.Str || op == api.StrReg || op == api.Stlr || op == api.Stxr
}

// P6.2: an address that is no multiple of 8: an exception of the level, by whether it is a store.
func TestBeginCrooked(t *testing.T) {
	for el, class := range []int{0x24, 0x25} {
		for _, base := range []uint64{0, 8, 0x1000, 1 << 63, 1<<64 - 8} {
			for k := range uint64(8) {
				for _, i := range accesses(6) {
					c := table(el)
					c.X[6] = base + k
					w := begin(t, c, wordOf(t, i))
					want := api.Want{Kind: api.WTrap, Class: class, Iss: 0x21, Addr: base + k}
					if stores(i.Op) {
						want.Iss = 0x61
					}
					if k == 0 && (w.Kind == api.WTrap || w.Addr != base) || k != 0 && w != want {
						t.Fatalf("%+v of %#x, EL %d: %+v", i, base+k, el, w)
					}
				}
			}
		}
	}
}

// P6.2: a register that is shifted may lead to no multiple of 8, or away from one.
func TestBeginCrookedSum(t *testing.T) {
	for _, row := range []struct {
		base, by uint64
		amount   int
		crooked  bool
	}{{16, 4, 0, true}, {12, 4, 0, false}, {16, 4, 3, false}, {12, 4, 3, true}, {1<<64 - 1, 1, 0, false}, {4, 1 << 61, 3, true}, {8, 1<<61 + 1, 3, false}} {
		c := table(1)
		c.X[6], c.X[7] = row.base, row.by
		addr := row.base + row.by<<row.amount
		for _, op := range []int{api.LdrReg, api.StrReg} {
			w := begin(t, c, wordOf(t, api.Insn{Op: op, Rn: 6, Rm: 7, Amount: row.amount}))
			if w.Addr != addr || (w.Kind == api.WTrap) != row.crooked {
				t.Errorf("%+v: %+v", row, w)
			}
		}
	}
}

// P6.2: 31 as Rn is the stack pointer of the level, as Rm the zero register.
func TestBeginStackPointer(t *testing.T) {
	for el, sp := range []uint64{0x100, 0x200} {
		for _, i := range accesses(31) {
			c := table(el)
			if w := begin(t, c, wordOf(t, i)); w.Kind == api.WTrap || w.Addr != sp {
				t.Errorf("%+v of EL %d: %+v", i, el, w)
			}
			c.SP[el]++
			if w := begin(t, c, wordOf(t, i)); w.Kind != api.WTrap || w.Addr != sp+1 {
				t.Errorf("%+v of EL %d: %+v", i, el, w)
			}
			c.SP[el], c.SP[1-el] = sp, 1
			if w := begin(t, c, wordOf(t, i)); w.Kind == api.WTrap || w.Addr != sp {
				t.Errorf("%+v of EL %d: %+v", i, el, w)
			}
		}
	}
}

// P6.2: which system registers may be read and written, at which level; those of GIC and timer are wanted.
func TestBeginSystem(t *testing.T) {
	const none, own, outside = 0, 1, 2
	rows := []struct{ sys, mrs0, msr0, mrs1, msr1 int }{
		{api.SysVbar, none, none, own, own},
		{api.SysElr, none, none, own, own},
		{api.SysSpsr, none, none, own, own},
		{api.SysEsr, none, none, own, own},
		{api.SysFar, none, none, own, own},
		{api.SysSp0, none, none, own, own},
		{api.SysMpidr, none, none, own, none},
		{api.SysEl, none, none, own, none},
		{api.SysDaif, none, none, own, own},
		{api.SysNzcv, own, own, own, own},
		{api.SysTpidr, own, own, own, own},
		{api.SysIar, none, none, outside, none},
		{api.SysEoir, none, none, none, outside},
		{api.SysPmr, none, none, outside, outside},
		{api.SysSgi, none, none, none, outside},
		{api.SysCnt, outside, none, outside, none},
		{api.SysCtl, none, none, outside, outside},
		{api.SysCval, none, none, outside, outside},
	}
	if len(rows) != len(allSys()) {
		t.Fatal(len(rows))
	}
	for _, row := range rows {
		for el, may := range [2][2]int{{row.mrs0, row.msr0}, {row.mrs1, row.msr1}} {
			reads := [3]api.Want{{Kind: api.WTrap}, {}, {Kind: api.WSysRead, Sys: row.sys}}[may[0]]
			writes := [3]api.Want{{Kind: api.WTrap}, {}, {Kind: api.WSysWrite, Sys: row.sys, Value: 7}}[may[1]]
			if w := begin(t, table(el), wordOf(t, api.Insn{Op: api.Mrs, Rd: 3, Sys: row.sys})); w != reads {
				t.Errorf("mrs of %#x, EL %d: %+v", row.sys, el, w)
			}
			if w := begin(t, table(el), wordOf(t, api.Insn{Op: api.Msr, Rd: 3, Sys: row.sys})); w != writes {
				t.Errorf("msr of %#x, EL %d: %+v", row.sys, el, w)
			}
		}
	}
	if w := begin(t, table(1), wordOf(t, api.Insn{Op: api.Msr, Rd: 31, Sys: api.SysPmr})); w != (api.Want{Kind: api.WSysWrite, Sys: api.SysPmr}) {
		t.Errorf("msr of the zero register: %+v", w)
	}
}

// P6.2: what EL 0 may not, and EL 1 may.
func TestBeginBarred(t *testing.T) {
	for _, i := range []api.Insn{
		{Op: api.Eret}, {Op: api.IcIallu}, {Op: api.MsrMask}, {Op: api.MsrMask, Imm: 2}, {Op: api.MsrMask, Sub: 1, Imm: 15},
	} {
		if w := begin(t, table(0), wordOf(t, i)); w != (api.Want{Kind: api.WTrap}) {
			t.Errorf("%+v of EL 0: %+v", i, w)
		}
		want := api.Want{}
		if i.Op == api.IcIallu {
			want.Kind = api.WIcAll
		}
		if w := begin(t, table(1), wordOf(t, i)); w != want {
			t.Errorf("%+v of EL 1: %+v", i, w)
		}
	}
}

// P6.2: words that are no instruction, of both levels.
func TestBeginUndef(t *testing.T) {
	for _, word := range []uint32{0, 1, 0xFFFFFFFF, 0x1BFFFFFF, 0xD5380000, 0xD503203F + 0x100, 0x11000420, 0xB9400020} {
		for el := range 2 {
			if w := begin(t, full(el), word); w != (api.Want{Kind: api.WTrap, Class: api.EcUnknown}) {
				t.Errorf("%08x: %+v", word, w)
			}
		}
	}
}
