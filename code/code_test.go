package code_test

import (
	"math"
	"slices"
	"testing"

	"understudy/api"
	"understudy/code"
	"understudy/insn"
)

// golden are words that are written out, each end of what a field may hold among them.
func golden() map[uint32]api.Insn {
	return map[uint32]api.Insn{
		0x91000420: {Op: api.AddImm, Rn: 1, Imm: 1},
		0xD10043FF: {Op: api.AddImm, Rd: 31, Rn: 31, Imm: 16, Minus: true},
		0xB17FFC41: {Op: api.AddImm, Rd: 1, Rn: 2, Imm: 4095, Amount: 12, Flags: true},
		0x8B020020: {Op: api.AddReg, Rn: 1, Rm: 2},
		0xEB03005F: {Op: api.AddReg, Rd: 31, Rn: 2, Rm: 3, Flags: true, Minus: true},
		0xCB9FFC1E: {Op: api.AddReg, Rd: 30, Rm: 31, Shift: 2, Amount: 63, Minus: true},
		0xAA0103E0: {Op: api.LogReg, Sub: 1, Rn: 31, Rm: 1},
		0xAA2103E0: {Op: api.LogReg, Sub: 1, Rn: 31, Rm: 1, Not: true},
		0xCAC5FC83: {Op: api.LogReg, Sub: 2, Rd: 3, Rn: 4, Rm: 5, Shift: 3, Amount: 63},
		0xEA02003F: {Op: api.LogReg, Rd: 31, Rn: 1, Rm: 2, Flags: true},
		0x8A420420: {Op: api.LogReg, Rn: 1, Rm: 2, Shift: 1, Amount: 1},
		0x92401C20: {Op: api.LogImm, Rn: 1, Amount: 1, Imm2: 7},
		0xB200F3E2: {Op: api.LogImm, Sub: 1, Rd: 2, Rn: 31, Imm2: 0x3C},
		0xD27FF841: {Op: api.LogImm, Sub: 2, Rd: 1, Rn: 2, Amount: 1, Imm: 63, Imm2: 62},
		0xF240003F: {Op: api.LogImm, Rd: 31, Rn: 1, Amount: 1, Flags: true},
		0xD2800020: {Op: api.MovWide, Sub: 2, Imm: 1},
		0x92800000: {Op: api.MovWide},
		0xF2FFFFE1: {Op: api.MovWide, Sub: 3, Rd: 1, Imm: 65535, Amount: 48},
		0xD37CEC20: {Op: api.Bitfield, Sub: 2, Rn: 1, Imm: 60, Imm2: 59},
		0x937FFC20: {Op: api.Bitfield, Rn: 1, Imm: 63, Imm2: 63},
		0x9AC32041: {Op: api.ShiftReg, Rd: 1, Rn: 2, Rm: 3},
		0x9AC32C41: {Op: api.ShiftReg, Sub: 3, Rd: 1, Rn: 2, Rm: 3},
		0x9B027C20: {Op: api.Mul, Rn: 1, Rm: 2, Ra: 31},
		0x9B028C20: {Op: api.Mul, Rn: 1, Rm: 2, Ra: 3, Minus: true},
		0x9AC20820: {Op: api.Div, Rn: 1, Rm: 2},
		0x9AC20C20: {Op: api.Div, Sub: 1, Rn: 1, Rm: 2},
		0x9A820020: {Op: api.Sel, Rn: 1, Rm: 2},
		0x9A9F17E0: {Op: api.Sel, Sub: 1, Rn: 31, Rm: 31, Cond: 1},
		0xDA82F020: {Op: api.Sel, Sub: 2, Rn: 1, Rm: 2, Cond: 15},
		0xDA82A420: {Op: api.Sel, Sub: 3, Rn: 1, Rm: 2, Cond: 10},
		0x10000000: {Op: api.Adr},
		0x30000001: {Op: api.Adr, Rd: 1, Imm: 1},
		0x10800000: {Op: api.Adr, Imm: -1 << 20},
		0x707FFFE0: {Op: api.Adr, Imm: 1<<20 - 1},
		0xF0FFFFE1: {Op: api.Adr, Sub: 1, Rd: 1, Imm: -4096},
		0x90800000: {Op: api.Adr, Sub: 1, Imm: -1 << 32},
		0xF07FFFE0: {Op: api.Adr, Sub: 1, Imm: 1<<32 - 4096},
		0x14000000: {Op: api.B},
		0x15FFFFFF: {Op: api.B, Imm: 1<<27 - 4},
		0x16000000: {Op: api.B, Imm: -1 << 27},
		0x17FFFFFF: {Op: api.B, Imm: -4},
		0x97FFFFFF: {Op: api.B, Imm: -4, Link: true},
		0x5400000E: {Op: api.BCond, Cond: 14},
		0x54800001: {Op: api.BCond, Cond: 1, Imm: -1 << 20},
		0x547FFFEF: {Op: api.BCond, Cond: 15, Imm: 1<<20 - 4},
		0xB4000000: {Op: api.Cbz},
		0xB57FFFFF: {Op: api.Cbz, Rd: 31, Not: true, Imm: 1<<20 - 4},
		0xB4800002: {Op: api.Cbz, Rd: 2, Imm: -1 << 20},
		0x36000000: {Op: api.Tbz},
		0xB7FFFFE5: {Op: api.Tbz, Rd: 5, Amount: 63, Not: true, Imm: -4},
		0x36FC0000: {Op: api.Tbz, Amount: 31, Imm: -1 << 15},
		0xB603FFE0: {Op: api.Tbz, Amount: 32, Imm: 1<<15 - 4},
		0xD65F03C0: {Op: api.Br, Sub: 2, Rn: 30},
		0xD61F0200: {Op: api.Br, Rn: 16},
		0xD63F0020: {Op: api.Br, Sub: 1, Rn: 1},
		0xF94007E0: {Op: api.Ldr, Rn: 31, Imm: 8},
		0xF93FFC1E: {Op: api.Str, Rd: 30, Imm: 32760},
		0xF8626820: {Op: api.LdrReg, Rn: 1, Rm: 2},
		0xF8627820: {Op: api.LdrReg, Rn: 1, Rm: 2, Amount: 3},
		0xF8226820: {Op: api.StrReg, Rn: 1, Rm: 2},
		0xF8227820: {Op: api.StrReg, Rn: 1, Rm: 2, Amount: 3},
		0xC8DFFC20: {Op: api.Ldar, Rn: 1},
		0xF8BFC020: {Op: api.Ldar, Sub: 1, Rn: 1},
		0xC89FFC20: {Op: api.Stlr, Rn: 1},
		0xC85F7C20: {Op: api.Ldxr, Rn: 1},
		0xC85FFC20: {Op: api.Ldxr, Sub: 1, Rn: 1},
		0xC8037C41: {Op: api.Stxr, Rd: 1, Rn: 2, Rm: 3},
		0xC803FC41: {Op: api.Stxr, Sub: 1, Rd: 1, Rn: 2, Rm: 3},
		0xD5033F5F: {Op: api.Clrex},
		0xD5033DBF: {Op: api.Dmb, Imm: 1},
		0xD5033EBF: {Op: api.Dmb, Imm: 2},
		0xD5033FBF: {Op: api.Dmb, Imm: 3},
		0xD5033D9F: {Op: api.Dmb, Sub: 1, Imm: 1},
		0xD5033E9F: {Op: api.Dmb, Sub: 1, Imm: 2},
		0xD5033F9F: {Op: api.Dmb, Sub: 1, Imm: 3},
		0xD5033FDF: {Op: api.Isb},
		0xD50B7523: {Op: api.IcIvau, Rd: 3},
		0xD50B7B3F: {Op: api.DcCvau, Rd: 31},
		0xD508751F: {Op: api.IcIallu},
		0xD50342DF: {Op: api.MsrMask, Imm: 2},
		0xD5034FFF: {Op: api.MsrMask, Sub: 1, Imm: 15},
		0xD4000001: {Op: api.Svc},
		0xD41FFFE1: {Op: api.Svc, Imm: 65535},
		0xD4200020: {Op: api.Brk, Imm: 1},
		0xD43FFFE0: {Op: api.Brk, Imm: 65535},
		0xD69F03E0: {Op: api.Eret},
		0xD503201F: {Op: api.Hint},
		0xD503203F: {Op: api.Hint, Imm: 1},
		0xD503205F: {Op: api.Hint, Imm: 2},
		0xD503207F: {Op: api.Hint, Imm: 3},
		0xD503209F: {Op: api.Hint, Imm: 4},
		0xD50320BF: {Op: api.Hint, Imm: 5},
	}
}

// systems are the system registers by their words of Mrs with Rd 0; those of Msr have 0x200000 less.
func systems() map[uint32]int {
	return map[uint32]int{
		0xD538C000: api.SysVbar, 0xD5384020: api.SysElr, 0xD5384000: api.SysSpsr, 0xD5385200: api.SysEsr,
		0xD5386000: api.SysFar, 0xD5384100: api.SysSp0, 0xD53800A0: api.SysMpidr, 0xD5384240: api.SysEl,
		0xD53B4220: api.SysDaif, 0xD53B4200: api.SysNzcv, 0xD53BD040: api.SysTpidr, 0xD538CC00: api.SysIar,
		0xD538CC20: api.SysEoir, 0xD5384600: api.SysPmr, 0xD538CBA0: api.SysSgi, 0xD53BE040: api.SysCnt,
		0xD53BE320: api.SysCtl, 0xD53BE340: api.SysCval,
	}
}

func both(t *testing.T, w uint32, i api.Insn) {
	t.Helper()
	if got := code.Decode(w); got != i {
		t.Errorf("Decode(%08X): %+v, not %+v", w, got, i)
	}
	if got, e := code.Encode(i); got != w || e != api.OK {
		t.Errorf("Encode(%+v): %08X %v, not %08X", i, got, e, w)
	}
}

// P3.1, P3.2: words that are written out, there and back.
func TestGolden(t *testing.T) {
	seen := map[int]bool{api.Mrs: true, api.Msr: true}
	for w, i := range golden() {
		both(t, w, i)
		seen[i.Op] = true
	}
	for op := api.AddImm; op <= api.Hint; op++ {
		if !seen[op] {
			t.Error("no word of the Op", op)
		}
	}
}

// P3.1, P3.2: every system register, with every Rd.
func TestSystems(t *testing.T) {
	for w, sys := range systems() {
		for rd := range 32 {
			both(t, w+uint32(rd), api.Insn{Op: api.Mrs, Sys: sys, Rd: rd})
			both(t, w+uint32(rd)-0x200000, api.Insn{Op: api.Msr, Sys: sys, Rd: rd})
		}
	}
	many := 0
	for w := uint32(0xD5300000); w < 0xD5400000; w += 32 {
		if code.Decode(w) != (api.Insn{}) {
			many++
		}
	}
	if many != 18 {
		t.Error("system registers that are decoded:", many)
	}
}

// P3.2: words that are none, most of them one step beside one that is.
func TestNone(t *testing.T) {
	for _, w := range []uint32{
		0, 1, 0xFFFFFFFF, 0x1BFFFFFF, 0x11000420, 0x91800420, 0x0B020020, 0x8BC20020, 0x8B220020, 0x0A020020,
		0x9240FC20, 0x9200FC20, 0x9200F820, 0x92007C20, 0x12001C20, 0xB2800000, 0x52800020,
		0xB3400000, 0xF3400000, 0x93000000, 0x13400000, 0x9AC31041, 0x9AC34041, 0x1AC32041, 0x9B228C20, 0x1B027C20,
		0x9AC21820, 0x1AC20820, 0x9A820820, 0xBA820020, 0x1A820020, 0x54000010, 0x55000000, 0x34000000,
		0xD67F03C0, 0xD61F0201, 0xD61F0600, 0xD69F03C0, 0xD69F03E1, 0xD6DF03E0, 0xB9400420, 0xF9800420,
		0xF862E820, 0xF8624820, 0xF8626C20, 0xF8626020, 0x88DFFC20, 0xC8DF7C20, 0xC8DEFC20, 0xC8DFF820, 0xF8BFC420,
		0xC85E7C20, 0xC85F7820, 0xC8037841, 0x88037C41, 0xC8437C41, 0xD5033E5F, 0xD5033F3F, 0xD5033F7F, 0xD5033F5E,
		0xD5033CBF, 0xD5033C9F, 0xD5033BBF, 0xD5033B9F, 0xD5033EDF, 0xD50B7503, 0xD50B7543, 0xD50B7B03, 0xD508753F,
		0xD508751E, 0xD5380000, 0xD5180000, 0xD528C000, 0xD5034200, 0xD503429F, 0xD50352DF, 0xD4000000, 0xD4000002,
		0xD4000003, 0xD4200001, 0xD4400000, 0xD50320DF, 0xD50320FF, 0xD503211F, 0xD503221F, 0xD503301F, 0xD503201E,
	} {
		if i := code.Decode(w); i != (api.Insn{}) {
			t.Errorf("Decode(%08X): %+v", w, i)
		}
	}
}

// P3.1: of what is not right there is no word.
func TestEncodeWrong(t *testing.T) {
	wrong := []api.Insn{
		{}, {Rd: 1}, {Op: -1}, {Op: 38}, {Op: math.MaxInt}, {Op: math.MinInt}, {Op: 1<<32 + api.AddImm},
		{Op: api.AddImm, Imm: 4096}, {Op: api.AddImm, Imm: -1}, {Op: api.AddImm, Amount: 24}, {Op: api.AddImm, Rd: 32},
		{Op: api.AddReg, Shift: 3}, {Op: api.AddReg, Amount: 64}, {Op: api.AddReg, Link: true}, {Op: api.LogReg, Sub: 3},
		{Op: api.LogReg, Sub: 1, Flags: true}, {Op: api.LogReg, Sub: 2, Flags: true}, {Op: api.LogImm, Amount: 1, Imm2: 63},
		{Op: api.LogImm, Imm2: 63}, {Op: api.LogImm, Sub: 2, Amount: 1, Flags: true}, {Op: api.MovWide, Sub: 1},
		{Op: api.MovWide, Amount: 64}, {Op: api.Bitfield, Sub: 1}, {Op: api.Bitfield, Imm: 64}, {Op: api.ShiftReg, Sub: 4},
		{Op: api.Mul, Ra: 32}, {Op: api.Div, Sub: 2}, {Op: api.Sel, Cond: 16}, {Op: api.Adr, Imm: 1 << 20},
		{Op: api.Adr, Sub: 1, Imm: 1}, {Op: api.B, Imm: 2}, {Op: api.B, Imm: 1 << 27}, {Op: api.BCond, Imm: -1<<20 - 4},
		{Op: api.Cbz, Imm: 1 << 20}, {Op: api.Tbz, Amount: 64}, {Op: api.Tbz, Imm: 1 << 15}, {Op: api.Br, Sub: 3},
		{Op: api.Ldr, Imm: 4}, {Op: api.Str, Imm: 32768}, {Op: api.LdrReg, Amount: 1}, {Op: api.StrReg, Amount: 2},
		{Op: api.Ldar, Sub: 2}, {Op: api.Ldar, Sub: -1}, {Op: api.Stlr, Sub: 1}, {Op: api.Ldxr, Rm: 31}, {Op: api.Stxr, Rn: -1},
		{Op: api.Clrex, Imm: 15}, {Op: api.Dmb}, {Op: api.Dmb, Imm: 15}, {Op: api.Dmb, Sub: -1, Imm: 3}, {Op: api.Isb, Rd: 31},
		{Op: api.IcIvau, Rd: 32}, {Op: api.DcCvau, Rn: 1}, {Op: api.IcIallu, Rd: 31}, {Op: api.Mrs}, {Op: api.Msr, Sys: 0x4601},
		{Op: api.MsrMask, Imm: 16}, {Op: api.MsrMask, Sub: 2}, {Op: api.Svc, Imm: 65536}, {Op: api.Brk, Imm: -1},
		{Op: api.Eret, Rn: 31}, {Op: api.Hint, Imm: 6},
	}
	for _, i := range wrong {
		if w, e := code.Encode(i); w != 0 || e != api.ErrInsn {
			t.Errorf("Encode(%+v): %08X %v", i, w, e)
		}
	}
}

// P3.1: one field is another; Encode refuses just what is not right.
func TestEncodeOneField(t *testing.T) {
	values := []int{math.MinInt, -1 << 32, -4096, -4, -1, 1, 4, 32, 64, 4096, 65536, 1 << 20, 1 << 27, 1 << 32, 1<<32 + 1, math.MaxInt}
	for _, i := range golden() {
		for k := range 12 {
			for _, v := range values {
				j := i
				*[12]*int{&j.Op, &j.Sub, &j.Rd, &j.Rn, &j.Rm, &j.Ra, &j.Imm, &j.Imm2, &j.Amount, &j.Shift, &j.Cond, &j.Sys}[k] = v
				refused(t, j)
			}
		}
		for k := range 4 {
			j := i
			p := [4]*bool{&j.Flags, &j.Minus, &j.Not, &j.Link}[k]
			*p = !*p
			refused(t, j)
		}
	}
}

func refused(t *testing.T, i api.Insn) {
	t.Helper()
	w, e := code.Encode(i)
	if right := insn.Right(i); right != (e == api.OK) || !right && (w != 0 || e != api.ErrInsn) {
		t.Errorf("Encode(%+v): %08X %v", i, w, e)
	}
}

// P3.1, P3.2: samples of each row of the chapter's table, there and back.
func TestSamples(t *testing.T) {
	seen := map[[2]int]int{}
	for _, k := range kinds() {
		for _, i := range k.samples() {
			both(t, k.encode(i), i)
			seen[[2]int{i.Op, i.Sub}]++
		}
		if t.Failed() {
			t.Fatalf("of the row %+v", k.row)
		}
	}
	if len(seen) != 59 {
		t.Error("kinds of samples:", len(seen))
	}
}

// P3.2: each bit of a sample's word is turned.
func TestTurnedBits(t *testing.T) {
	all := kinds()
	for _, k := range all {
		list := k.samples()
		for at := 0; at < len(list); at += 1 + len(list)/300 {
			w := k.encode(list[at])
			for bit := range 32 {
				asModel(t, all, w^1<<bit)
			}
		}
	}
}

// P3.2: words with each upper half there is.
func TestHalves(t *testing.T) {
	all := kinds()
	low := []uint32{0, 0xFFFF, 0x7C20, 0xFC41, 0x3FBF, 0x2023, 0x0820, 0x6820, 0x0001, 0x42DF, 0x751F, 0x03E0, 0xC020}
	for high := range uint32(1 << 16) {
		for _, l := range low {
			asModel(t, all, high<<16|l)
		}
	}
}

func asModel(t *testing.T, all []kind, w uint32) {
	t.Helper()
	if got, want := code.Decode(w), decode(all, w); got != want {
		t.Fatalf("Decode(%08X): %+v, not %+v", w, got, want)
	}
}

// P3.3: any words, and what they are decoded to, there and back.
func TestThereAndBack(t *testing.T) {
	w, many := uint32(1), 0
	for range 1 << 20 {
		w = w*1664525 + 1013904223
		i := code.Decode(w)
		if i == (api.Insn{}) {
			continue
		}
		many++
		back, e := code.Encode(i)
		if e != api.OK || back != w || !insn.Right(i) || code.Decode(back) != i {
			t.Fatalf("%08X: %+v: %08X %v", w, i, back, e)
		}
	}
	if many < 1<<16 {
		t.Error("words that are instructions:", many)
	}
}

// P3.3: two instructions have not one word.
func TestWordsDiffer(t *testing.T) {
	seen := map[uint32]api.Insn{}
	for _, k := range kinds() {
		for _, i := range k.samples() {
			w, _ := code.Encode(i)
			if j, ok := seen[w]; ok && j != i {
				t.Fatalf("%08X: %+v and %+v", w, i, j)
			}
			seen[w] = i
		}
	}
}

// P3.2, P3.3: of these kinds every word, and as many as the fields have values.
func TestWholeKinds(t *testing.T) {
	masks := 0
	for n := range 2 {
		for r := range 64 {
			for s := range 64 {
				if insn.Right(api.Insn{Op: api.LogImm, Amount: n, Imm: r, Imm2: s}) {
					masks++
				}
			}
		}
	}
	for _, x := range []struct {
		from  uint32
		bits  int
		at    int
		kinds []int
		want  int
	}{
		{0x92000000, 13, 10, []int{api.LogImm}, masks},
		{0xD4000000, 22, 0, []int{api.Svc, api.Brk}, 2 << 16},
		{0xD5000000, 20, 0, []int{api.Clrex, api.Dmb, api.Isb, api.IcIvau, api.IcIallu, api.DcCvau, api.MsrMask, api.Hint}, 3 + 6 + 64 + 32 + 6},
		{0xD6000000, 22, 0, []int{api.Br}, 64},
		{0xD6400000, 22, 0, []int{api.Br}, 32},
		{0xD6800000, 22, 0, []int{api.Eret}, 1},
		{0xC8000000, 17, 0, []int{api.Stxr}, 4 << 10},
	} {
		many := 0
		for k := range uint32(1) << x.bits {
			w := x.from + k<<x.at
			i := code.Decode(w)
			if i.Op == api.Undef {
				continue
			}
			many++
			if back, e := code.Encode(i); back != w || e != api.OK || !slices.Contains(x.kinds, i.Op) {
				t.Fatalf("%08X: %+v: %08X", w, i, back)
			}
		}
		if many != x.want {
			t.Errorf("from %08X: %d, not %d", x.from, many, x.want)
		}
	}
}
