package sem_test

import (
	"testing"

	"understudy/api"
)

const ones = 1<<64 - 1

// after is the state with its PC 4 further, changed.
func after(c api.Core, change func(d *api.Core)) api.Core {
	c.PC += 4
	change(&c)
	return c
}

// does holds an instruction, in a state, against the state behind it, at both levels.
func does(t *testing.T, i api.Insn, got api.Got, first, change func(c *api.Core)) {
	t.Helper()
	for el := range 2 {
		c := full(el)
		first(&c)
		d := end(t, c, wordOf(t, i), got)
		if want := after(c, change); d != want {
			t.Errorf("%+v of EL %d:\n%+v, not\n%+v", i, el, d, want)
		}
	}
}

// P6.3: what is reckoned of X1 and X2 (and X3), into X0.
func TestEndReckons(t *testing.T) {
	for _, row := range []struct {
		i          api.Insn
		a, b, want uint64
	}{
		{api.Insn{Op: api.AddImm, Imm: 1}, ones, 0, 0},
		{api.Insn{Op: api.AddImm, Imm: 4095, Amount: 12}, 1, 0, 0xFFF001},
		{api.Insn{Op: api.AddImm, Imm: 1, Minus: true}, 0, 0, ones},
		{api.Insn{Op: api.AddImm, Imm: 1, Amount: 12, Minus: true}, 0x1001, 0, 1},
		{api.Insn{Op: api.AddReg}, 3, 4, 7},
		{api.Insn{Op: api.AddReg, Amount: 63}, 3, 3, 1<<63 + 3},
		{api.Insn{Op: api.AddReg, Shift: 1, Amount: 4}, 3, 0xF0, 18},
		{api.Insn{Op: api.AddReg, Shift: 2, Amount: 60}, 3, 1 << 63, ones - 4},
		{api.Insn{Op: api.AddReg, Minus: true, Amount: 1}, 3, 4, ones - 4},
		{api.Insn{Op: api.LogReg}, 12, 10, 8},
		{api.Insn{Op: api.LogReg, Sub: 1}, 12, 10, 14},
		{api.Insn{Op: api.LogReg, Sub: 2}, 12, 10, 6},
		{api.Insn{Op: api.LogReg, Not: true}, 12, 10, 4},
		{api.Insn{Op: api.LogReg, Sub: 1, Not: true}, 12, 10, ones - 2},
		{api.Insn{Op: api.LogReg, Sub: 2, Not: true}, 12, 10, ones - 6},
		{api.Insn{Op: api.LogReg, Sub: 1, Shift: 3, Amount: 1}, 0, 3, 1<<63 + 1},
		{api.Insn{Op: api.LogReg, Not: true, Amount: 1}, 12, 2, 8},
		{api.Insn{Op: api.LogImm, Amount: 1, Imm2: 3}, 0xFF, 0, 15},
		{api.Insn{Op: api.LogImm, Sub: 1, Imm2: 0x3C}, 0, 0, 0x5555555555555555},
		{api.Insn{Op: api.LogImm, Sub: 2, Amount: 1, Imm: 1}, 1, 0, 1<<63 + 1},
		{api.Insn{Op: api.Bitfield, Sub: 2, Imm: 4, Imm2: 7}, 0xF0, 0, 15},
		{api.Insn{Op: api.Bitfield, Imm: 4, Imm2: 7}, 0xF0, 0, ones},
		{api.Insn{Op: api.Bitfield, Sub: 2, Imm: 60, Imm2: 1}, 3, 0, 0x30},
		{api.Insn{Op: api.ShiftReg}, 1, 63, 1 << 63},
		{api.Insn{Op: api.ShiftReg}, 1, 64, 1},
		{api.Insn{Op: api.ShiftReg, Sub: 1}, 1 << 63, 127, 1},
		{api.Insn{Op: api.ShiftReg, Sub: 2}, 1 << 63, 1<<63 + 1, 3 << 62},
		{api.Insn{Op: api.ShiftReg, Sub: 3}, 1, ones, 2},
		{api.Insn{Op: api.Mul, Ra: 3}, 5, 7, 135},
		{api.Insn{Op: api.Mul, Ra: 3, Minus: true}, 5, 7, 65},
		{api.Insn{Op: api.Mul, Ra: 31}, ones, ones, 1},
		{api.Insn{Op: api.Mul, Ra: 31, Minus: true}, 1, 1, ones},
		{api.Insn{Op: api.Div}, ones, 2, 1<<63 - 1},
		{api.Insn{Op: api.Div, Sub: 1}, ones - 6, 2, ones - 2},
		{api.Insn{Op: api.Div}, 5, 0, 0},
		{api.Insn{Op: api.Div, Sub: 1}, 5, 0, 0},
		{api.Insn{Op: api.Div, Sub: 1}, 1 << 63, ones, 1 << 63},
		{api.Insn{Op: api.Sel, Cond: 14}, 5, 7, 5},
		{api.Insn{Op: api.Sel, Cond: 15, Sub: 3}, 5, 7, 5},
		{api.Insn{Op: api.Sel, Cond: 0}, 5, 7, 7},
		{api.Insn{Op: api.Sel, Cond: 0, Sub: 1}, 5, ones, 0},
		{api.Insn{Op: api.Sel, Cond: 0, Sub: 2}, 5, 7, ones - 7},
		{api.Insn{Op: api.Sel, Cond: 0, Sub: 3}, 5, 7, ones - 6},
		{api.Insn{Op: api.Sel, Cond: 1, Sub: 3}, 5, 7, 5},
	} {
		row.i.Rn = 1
		if row.i.Op != api.AddImm && row.i.Op != api.LogImm && row.i.Op != api.Bitfield {
			row.i.Rm = 2
		}
		first := func(c *api.Core) { c.X[1], c.X[2], c.X[3] = row.a, row.b, 100 }
		does(t, row.i, api.Got{}, first, func(d *api.Core) { d.X[0] = row.want })
	}
}

// P6.3: the flags of sums and of what is logical; what has no Flags leaves them.
func TestEndFlags(t *testing.T) {
	type flags struct{ n, z, c, v bool }
	for _, row := range []struct {
		i          api.Insn
		a, b, want uint64
		flags      flags
	}{
		{api.Insn{Op: api.AddImm, Imm: 1}, ones, 0, 0, flags{z: true, c: true}},
		{api.Insn{Op: api.AddImm, Imm: 1}, 1<<63 - 1, 0, 1 << 63, flags{n: true, v: true}},
		{api.Insn{Op: api.AddImm, Imm: 5, Minus: true}, 5, 0, 0, flags{z: true, c: true}},
		{api.Insn{Op: api.AddImm, Imm: 6, Minus: true}, 5, 0, ones, flags{n: true}},
		{api.Insn{Op: api.AddImm, Imm: 1, Minus: true}, 1 << 63, 0, 1<<63 - 1, flags{c: true, v: true}},
		{api.Insn{Op: api.AddImm, Minus: true}, 7, 0, 7, flags{c: true}},
		{api.Insn{Op: api.AddReg}, 1 << 63, 1 << 63, 0, flags{z: true, c: true, v: true}},
		{api.Insn{Op: api.AddReg, Minus: true}, 3, 5, ones - 1, flags{n: true}},
		{api.Insn{Op: api.LogReg}, ones, 1 << 63, 1 << 63, flags{n: true}},
		{api.Insn{Op: api.LogReg, Not: true}, 5, 5, 0, flags{z: true}},
		{api.Insn{Op: api.LogImm, Amount: 1}, 1, 0, 1, flags{}},
		{api.Insn{Op: api.LogImm, Amount: 1, Imm: 1}, 1, 0, 0, flags{z: true}},
		{api.Insn{Op: api.LogImm, Amount: 1, Imm: 1}, ones, 0, 1 << 63, flags{n: true}},
	} {
		row.i.Rn = 1
		if row.i.Op == api.AddReg || row.i.Op == api.LogReg {
			row.i.Rm = 2
		}
		for before := range 2 {
			first := func(c *api.Core) {
				c.X[1], c.X[2] = row.a, row.b
				c.N, c.Z, c.C, c.V = before == 0, before == 0, before == 0, before == 0
			}
			row.i.Flags = false
			does(t, row.i, api.Got{}, first, func(d *api.Core) { d.X[0] = row.want })
			row.i.Flags = true
			f := row.flags
			does(t, row.i, api.Got{}, first, func(d *api.Core) { d.X[0], d.N, d.Z, d.C, d.V = row.want, f.n, f.z, f.c, f.v })
			row.i.Rd = 31
			does(t, row.i, api.Got{}, first, func(d *api.Core) { d.N, d.Z, d.C, d.V = f.n, f.z, f.c, f.v })
			row.i.Rd = 0
		}
	}
}

// P6.3: where 31 is the stack pointer of the level, and where it is nothing.
func TestEndStackPointer(t *testing.T) {
	as := func(c *api.Core) { c.SP[c.EL], c.SP[1-c.EL] = 0x500, 0x900 }
	does(t, api.Insn{Op: api.AddImm, Rd: 31, Rn: 31, Imm: 16, Minus: true}, api.Got{}, as, func(d *api.Core) { d.SP[d.EL] = 0x4F0 })
	does(t, api.Insn{Op: api.AddImm, Rd: 4, Rn: 31, Imm: 1}, api.Got{}, as, func(d *api.Core) { d.X[4] = 0x501 })
	does(t, api.Insn{Op: api.AddImm, Rd: 4, Rn: 31, Imm: 1, Flags: true}, api.Got{}, as, func(d *api.Core) { d.X[4], d.N, d.C = 0x501, false, false })
	does(t, api.Insn{Op: api.AddImm, Rd: 31, Rn: 31, Imm: 1, Flags: true}, api.Got{}, as, func(d *api.Core) { d.N, d.C = false, false })
	does(t, api.Insn{Op: api.LogImm, Sub: 1, Rd: 31, Rn: 31, Amount: 1}, api.Got{}, as, func(d *api.Core) { d.SP[d.EL] = 1 })
	does(t, api.Insn{Op: api.LogImm, Rd: 31, Rn: 31, Amount: 1, Flags: true}, api.Got{}, as, func(d *api.Core) { d.N, d.Z, d.C, d.V = false, true, false, false })
	for _, i := range []api.Insn{
		{Op: api.AddReg, Rd: 31, Rn: 1, Rm: 2}, {Op: api.LogReg, Sub: 1, Rd: 31, Rn: 1, Rm: 2}, {Op: api.MovWide, Sub: 2, Rd: 31, Imm: 7},
		{Op: api.Bitfield, Rd: 31, Rn: 1, Imm2: 63}, {Op: api.ShiftReg, Rd: 31, Rn: 1}, {Op: api.Mul, Rd: 31, Rn: 1, Rm: 2}, {Op: api.Div, Rd: 31, Rn: 1, Rm: 2},
		{Op: api.Sel, Rd: 31, Rn: 1, Rm: 2}, {Op: api.Adr, Rd: 31, Imm: 7}, {Op: api.Ldr, Rd: 31, Rn: 1}, {Op: api.Ldxr, Rd: 31, Rn: 1},
		{Op: api.Stxr, Rd: 1, Rn: 1, Rm: 31}, {Op: api.Mrs, Rd: 31, Sys: api.SysTpidr},
	} {
		does(t, i, api.Got{Value: 5}, as, func(*api.Core) {})
	}
	does(t, api.Insn{Op: api.AddReg, Rd: 4, Rn: 31, Rm: 31}, api.Got{}, as, func(d *api.Core) { d.X[4] = 0 })
	does(t, api.Insn{Op: api.LogReg, Sub: 1, Rd: 4, Rn: 31, Rm: 2}, api.Got{}, as, func(d *api.Core) { d.X[4] = d.X[2] })
}

// P6.3: the wide moves.
func TestEndMovWide(t *testing.T) {
	at := func(c *api.Core) { c.X[9] = 0x1111222233334444 }
	for amount, kept := range map[int]uint64{0: 0x111122223333ABCD, 16: 0x11112222ABCD4444, 32: 0x1111ABCD33334444, 48: 0xABCD222233334444} {
		part := uint64(0xABCD) << amount
		for sub, want := range map[int]uint64{0: ones - part, 2: part, 3: kept} {
			i := api.Insn{Op: api.MovWide, Sub: sub, Rd: 9, Imm: 0xABCD, Amount: amount}
			does(t, i, api.Got{}, at, func(d *api.Core) { d.X[9] = want })
		}
	}
}

// P6.3: addresses of the PC, which is that of the instruction, and wraps.
func TestEndAdr(t *testing.T) {
	for _, row := range []struct {
		i        api.Insn
		pc, want uint64
	}{
		{api.Insn{Op: api.Adr, Imm: 5}, 0x1004, 0x1009},
		{api.Insn{Op: api.Adr, Imm: -5}, 0, ones - 4},
		{api.Insn{Op: api.Adr, Imm: 1<<20 - 1}, 0x1004, 0x101003},
		{api.Insn{Op: api.Adr, Imm: -1 << 20}, 0x1004, ones - 0xFEFFB},
		{api.Insn{Op: api.Adr, Sub: 1}, 0x1FFC, 0x1000},
		{api.Insn{Op: api.Adr, Sub: 1, Imm: 4096}, 0x1FFC, 0x2000},
		{api.Insn{Op: api.Adr, Sub: 1, Imm: -4096}, 0xFFC, ones - 0xFFF},
		{api.Insn{Op: api.Adr, Sub: 1, Imm: 1<<32 - 4096}, ones - 3, 1<<32 - 8192},
	} {
		does(t, row.i, api.Got{}, func(c *api.Core) { c.PC = row.pc }, func(d *api.Core) { d.X[0] = row.want })
	}
}

// P6.3: branches, done and not done; the PC wraps.
func TestEndBranches(t *testing.T) {
	to := func(pc uint64) func(d *api.Core) { return func(d *api.Core) { d.PC = pc } }
	on := func(*api.Core) {}
	for _, row := range []struct {
		i    api.Insn
		x    uint64
		then func(d *api.Core)
	}{
		{api.Insn{Op: api.B, Imm: -4}, 0, to(0xFFC)},
		{api.Insn{Op: api.B}, 0, to(0x1000)},
		{api.Insn{Op: api.B, Imm: 1<<27 - 4}, 0, to(0x8000FFC)},
		{api.Insn{Op: api.B, Imm: -1 << 27}, 0, to(ones - 0x7FFEFFF)},
		{api.Insn{Op: api.B, Imm: 8, Link: true}, 0, func(d *api.Core) { d.PC, d.X[30] = 0x1008, 0x1004 }},
		{api.Insn{Op: api.BCond, Cond: 0, Imm: 64}, 0, to(0x1040)},
		{api.Insn{Op: api.BCond, Cond: 1, Imm: 64}, 0, on},
		{api.Insn{Op: api.BCond, Cond: 2, Imm: 64}, 0, on},
		{api.Insn{Op: api.BCond, Cond: 14, Imm: -64}, 0, to(0xFC0)},
		{api.Insn{Op: api.BCond, Cond: 15, Imm: -64}, 0, to(0xFC0)},
		{api.Insn{Op: api.Cbz, Imm: 64}, 0, to(0x1040)},
		{api.Insn{Op: api.Cbz, Imm: 64}, 1 << 63, on},
		{api.Insn{Op: api.Cbz, Imm: 64, Not: true}, 0, on},
		{api.Insn{Op: api.Cbz, Imm: 64, Not: true}, 1 << 63, to(0x1040)},
		{api.Insn{Op: api.Cbz, Imm: 64, Rd: 31}, 7, to(0x1040)},
		{api.Insn{Op: api.Tbz, Imm: -64}, 2, to(0xFC0)},
		{api.Insn{Op: api.Tbz, Imm: -64}, 1, on},
		{api.Insn{Op: api.Tbz, Imm: -64, Not: true}, 2, on},
		{api.Insn{Op: api.Tbz, Imm: -64, Not: true}, 1, to(0xFC0)},
		{api.Insn{Op: api.Tbz, Imm: 64, Amount: 63}, 1<<63 - 1, to(0x1040)},
		{api.Insn{Op: api.Tbz, Imm: 64, Amount: 63}, 1 << 63, on},
		{api.Insn{Op: api.Tbz, Imm: 64, Amount: 63, Not: true}, 1 << 63, to(0x1040)},
		{api.Insn{Op: api.Tbz, Imm: 64, Amount: 33, Not: true, Rd: 31}, ones, on},
		{api.Insn{Op: api.Br}, 0x1235, to(0x1235)},
		{api.Insn{Op: api.Br, Sub: 2}, ones, to(ones)},
		{api.Insn{Op: api.Br, Sub: 1}, 0x2000, func(d *api.Core) { d.PC, d.X[30] = 0x2000, 0x1004 }},
		{api.Insn{Op: api.Br, Rn: 31}, 7, to(0)},
	} {
		does(t, row.i, api.Got{}, func(c *api.Core) { c.PC, c.X[0], c.N, c.Z, c.C, c.V = 0x1000, row.x, false, true, false, false }, row.then)
	}
	does(t, api.Insn{Op: api.Br, Sub: 1, Rn: 30}, api.Got{}, func(c *api.Core) { c.PC, c.X[30] = 0x1000, 0x3000 },
		func(d *api.Core) { d.PC, d.X[30] = 0x3000, 0x1004 })
	does(t, api.Insn{Op: api.B, Imm: 8, Link: true}, api.Got{}, func(c *api.Core) { c.PC = ones - 3 },
		func(d *api.Core) { d.PC, d.X[30] = 4, 0 })
	does(t, api.Insn{Op: api.Hint}, api.Got{}, func(c *api.Core) { c.PC = ones - 3 }, func(d *api.Core) { d.PC = 0 })
}

// P6.3: what is loaded, and whether a store exclusive was done; a store changes nothing.
func TestEndAccesses(t *testing.T) {
	none := func(*api.Core) {}
	for _, i := range accesses(1) {
		for _, ok := range []bool{false, true} {
			i.Rd = 7
			does(t, i, api.Got{Value: 0xABCDEF0123456789, Ok: ok}, none, func(d *api.Core) {
				switch {
				case !stores(i.Op):
					d.X[7] = 0xABCDEF0123456789
				case i.Op == api.Stxr && ok:
					d.X[3] = 0
				case i.Op == api.Stxr:
					d.X[3] = 1
				}
			})
		}
	}
	does(t, api.Insn{Op: api.Ldr, Rd: 1, Rn: 1}, api.Got{Value: 9}, none, func(d *api.Core) { d.X[1] = 9 })
}

// P6.3: system registers of the state, and those outside.
func TestEndSystem(t *testing.T) {
	const value = 0xFEDCBA98D6543A90 // N, Z and V of it, and bit 7
	c := full(1)
	got := api.Got{Value: 99}
	for sys, want := range map[int]uint64{
		api.SysVbar: c.Vbar, api.SysElr: c.Elr, api.SysSpsr: c.Spsr, api.SysEsr: c.Esr, api.SysFar: c.Far, api.SysSp0: c.SP[0], api.SysMpidr: 0x80000005,
		api.SysEl: 4, api.SysDaif: 0, api.SysNzcv: 0xA0000000, api.SysTpidr: c.Tpidr, api.SysIar: 99, api.SysPmr: 99, api.SysCnt: 99, api.SysCtl: 99, api.SysCval: 99,
	} {
		d := end(t, c, wordOf(t, api.Insn{Op: api.Mrs, Rd: 30, Sys: sys}), got)
		same(t, "mrs", d, after(c, func(d *api.Core) { d.X[30] = want }))
	}
	nothing := func(*api.Core) {}
	for sys, change := range map[int]func(d *api.Core){
		api.SysVbar:  func(d *api.Core) { d.Vbar = 0xFEDCBA98D6543800 },
		api.SysElr:   func(d *api.Core) { d.Elr = value },
		api.SysSpsr:  func(d *api.Core) { d.Spsr = value },
		api.SysEsr:   func(d *api.Core) { d.Esr = 0xD6543A90 },
		api.SysFar:   func(d *api.Core) { d.Far = value },
		api.SysSp0:   func(d *api.Core) { d.SP[0] = value },
		api.SysDaif:  func(d *api.Core) { d.Mask = true },
		api.SysNzcv:  func(d *api.Core) { d.N, d.Z, d.C, d.V = true, true, false, true },
		api.SysTpidr: func(d *api.Core) { d.Tpidr = value },
		api.SysEoir:  nothing, api.SysPmr: nothing, api.SysSgi: nothing, api.SysCtl: nothing, api.SysCval: nothing,
	} {
		c.X[30] = value
		d := end(t, c, wordOf(t, api.Insn{Op: api.Msr, Rd: 30, Sys: sys}), got)
		same(t, "msr", d, after(c, change))
	}
}

// P6.3: bit 1 of the number alone is for interrupts.
func TestEndMsrMask(t *testing.T) {
	for imm := range 16 {
		for sub := range 2 {
			for _, mask := range []bool{false, true} {
				c := full(1)
				c.Mask = mask
				d := end(t, c, wordOf(t, api.Insn{Op: api.MsrMask, Sub: sub, Imm: imm}), api.Got{})
				same(t, "msr", d, after(c, func(d *api.Core) {
					if imm&2 != 0 {
						d.Mask = sub == 0
					}
				}))
			}
		}
	}
}

// P6.3: hints, with an event and without, in a state that waits and in one that does not.
func TestEndHints(t *testing.T) {
	for _, event := range []bool{false, true} {
		for wait := range 3 {
			first := func(c *api.Core) { c.Event, c.Wait = event, wait }
			for imm, change := range []func(d *api.Core){
				func(d *api.Core) {},
				func(d *api.Core) {},
				func(d *api.Core) {
					if event {
						d.Event = false
					} else {
						d.Wait = 2
					}
				},
				func(d *api.Core) { d.Wait = 1 },
				func(d *api.Core) { d.Event = true },
				func(d *api.Core) { d.Event = true },
			} {
				does(t, api.Insn{Op: api.Hint, Imm: imm}, api.Got{}, first, change)
			}
		}
	}
}
