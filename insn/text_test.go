package insn_test

import (
	"slices"
	"testing"

	"understudy/api"
	"understudy/bits"
	"understudy/insn"
)

func told(t *testing.T, i api.Insn, want string) {
	t.Helper()
	if s, e := insn.Text(i); s != want || e != api.OK {
		t.Errorf("Text(%+v): %q %v, not %q", i, s, e, want)
	}
}

// P2.2, P2.4: the chapter's examples.
func TestExamples(t *testing.T) {
	for _, x := range []struct {
		i             api.Insn
		text          string
		reads, writes []int
	}{
		{api.Insn{Op: api.AddImm, Rd: 0, Rn: 1, Imm: 1}, "add x0, x1, #1", []int{1}, []int{0}},
		{api.Insn{Op: api.AddImm, Rd: 31, Rn: 31, Imm: 16, Minus: true}, "sub sp, sp, #16", []int{31}, []int{31}},
		{api.Insn{Op: api.AddReg, Rd: 31, Rn: 2, Rm: 3, Flags: true, Minus: true}, "subs xzr, x2, x3", []int{2, 3}, nil},
		{api.Insn{Op: api.Ldr, Rd: 0, Rn: 31, Imm: 8}, "ldr x0, [sp, #8]", []int{31}, []int{0}},
		{api.Insn{Op: api.Stxr, Sub: 1, Rd: 1, Rn: 2, Rm: 3}, "stlxr x3, x1, [x2]", []int{1, 2}, []int{3}},
		{api.Insn{Op: api.Dmb, Imm: 3}, "dmb sy", nil, nil},
	} {
		told(t, x.i, x.text)
		if r, w := insn.Reads(x.i), insn.Writes(x.i); !slices.Equal(r, x.reads) || !slices.Equal(w, x.writes) {
			t.Error(x.text, r, w)
		}
	}
}

// P2.4: each word, and each order of parts.
func TestTextReckons(t *testing.T) {
	told(t, api.Insn{Op: api.AddImm, Rd: 30, Rn: 31, Imm: 4095, Amount: 12}, "add x30, sp, #4095, lsl #12")
	told(t, api.Insn{Op: api.AddImm, Rd: 31, Rn: 31, Flags: true}, "adds xzr, sp, #0")
	told(t, api.Insn{Op: api.AddImm, Rd: 1, Rn: 2, Flags: true, Minus: true, Imm: 3}, "subs x1, x2, #3")
	told(t, api.Insn{Op: api.AddReg, Rd: 31, Rn: 31, Rm: 31}, "add xzr, xzr, xzr")
	told(t, api.Insn{Op: api.AddReg, Rd: 1, Rn: 2, Rm: 3, Flags: true, Amount: 63}, "adds x1, x2, x3, lsl #63")
	told(t, api.Insn{Op: api.AddReg, Rd: 1, Rn: 2, Rm: 3, Minus: true, Shift: 1}, "sub x1, x2, x3, lsr #0")
	told(t, api.Insn{Op: api.AddReg, Rd: 1, Rn: 2, Rm: 3, Shift: 2, Amount: 5}, "add x1, x2, x3, asr #5")
	for _, x := range []struct {
		sub        int
		flags, not bool
		word       string
	}{
		{0, false, false, "and"}, {0, true, false, "ands"}, {0, false, true, "bic"}, {0, true, true, "bics"},
		{1, false, false, "orr"}, {1, false, true, "orn"}, {2, false, false, "eor"}, {2, false, true, "eon"},
	} {
		told(t, api.Insn{Op: api.LogReg, Sub: x.sub, Flags: x.flags, Not: x.not, Rd: 31, Rn: 4, Rm: 5}, x.word+" xzr, x4, x5")
		told(t, api.Insn{Op: api.LogReg, Sub: x.sub, Flags: x.flags, Not: x.not, Rd: 3, Rn: 31, Rm: 5, Shift: 3}, x.word+" x3, xzr, x5, ror #0")
		if !x.not {
			rd := pick(x.flags, "xzr", "sp")
			told(t, api.Insn{Op: api.LogImm, Sub: x.sub, Flags: x.flags, Rd: 31, Rn: 31, Amount: 1, Imm: 1}, x.word+" "+rd+", xzr, #9223372036854775808")
		}
	}
	told(t, api.Insn{Op: api.MovWide, Rd: 31, Imm: 0}, "movn xzr, #0")
	told(t, api.Insn{Op: api.MovWide, Rd: 2, Sub: 2, Imm: 65535, Amount: 48}, "movz x2, #65535, lsl #48")
	told(t, api.Insn{Op: api.MovWide, Rd: 2, Sub: 3, Imm: 1}, "movk x2, #1")
	told(t, api.Insn{Op: api.Bitfield, Rd: 1, Rn: 2, Imm: 63, Imm2: 5}, "sbfm x1, x2, #63, #5")
	told(t, api.Insn{Op: api.Bitfield, Rd: 31, Rn: 31, Sub: 2, Imm2: 63}, "ubfm xzr, xzr, #0, #63")
	for sub, word := range []string{"lsl", "lsr", "asr", "ror"} {
		told(t, api.Insn{Op: api.ShiftReg, Sub: sub, Rd: 1, Rn: 2, Rm: 31}, word+" x1, x2, xzr")
	}
	told(t, api.Insn{Op: api.Mul, Rd: 1, Rn: 2, Rm: 3, Ra: 4}, "madd x1, x2, x3, x4")
	told(t, api.Insn{Op: api.Mul, Rd: 1, Rn: 2, Rm: 3, Ra: 31, Minus: true}, "msub x1, x2, x3, xzr")
	told(t, api.Insn{Op: api.Div, Rd: 1, Rn: 2, Rm: 3}, "udiv x1, x2, x3")
	told(t, api.Insn{Op: api.Div, Rd: 1, Rn: 2, Rm: 3, Sub: 1}, "sdiv x1, x2, x3")
	for sub, word := range []string{"csel", "csinc", "csinv", "csneg"} {
		told(t, api.Insn{Op: api.Sel, Sub: sub, Rd: 1, Rn: 2, Rm: 3, Cond: 14}, word+" x1, x2, x3, al")
	}
	told(t, api.Insn{Op: api.Adr, Rd: 7, Imm: -1048576}, "adr x7, #-1048576")
	told(t, api.Insn{Op: api.Adr, Rd: 31, Sub: 1, Imm: 4294963200}, "adrp xzr, #4294963200")
}

// P2.4: the conditions' letters.
func TestTextConditions(t *testing.T) {
	for c, word := range []string{"eq", "ne", "cs", "cc", "mi", "pl", "vs", "vc", "hi", "ls", "ge", "lt", "gt", "le", "al", "nv"} {
		told(t, api.Insn{Op: api.BCond, Cond: c, Imm: -4}, "b."+word+" #-4")
		told(t, api.Insn{Op: api.Sel, Rd: 31, Rn: 31, Rm: 31, Cond: c}, "csel xzr, xzr, xzr, "+word)
	}
}

// P2.4: each word, and each order of parts, of branches, accesses and what is left.
func TestTextOthers(t *testing.T) {
	told(t, api.Insn{Op: api.B}, "b #0")
	told(t, api.Insn{Op: api.B, Link: true, Imm: -134217728}, "bl #-134217728")
	told(t, api.Insn{Op: api.Cbz, Rd: 31, Imm: 4}, "cbz xzr, #4")
	told(t, api.Insn{Op: api.Cbz, Rd: 3, Not: true, Imm: -4}, "cbnz x3, #-4")
	told(t, api.Insn{Op: api.Tbz, Rd: 3, Amount: 63, Imm: 8}, "tbz x3, #63, #8")
	told(t, api.Insn{Op: api.Tbz, Rd: 31, Not: true}, "tbnz xzr, #0, #0")
	told(t, api.Insn{Op: api.Br, Rn: 1}, "br x1")
	told(t, api.Insn{Op: api.Br, Rn: 31, Sub: 1}, "blr xzr")
	told(t, api.Insn{Op: api.Br, Rn: 30, Sub: 2}, "ret x30")
	told(t, api.Insn{Op: api.Ldr, Rd: 31, Rn: 1}, "ldr xzr, [x1, #0]")
	told(t, api.Insn{Op: api.Str, Rd: 31, Rn: 31, Imm: 32760}, "str xzr, [sp, #32760]")
	told(t, api.Insn{Op: api.LdrReg, Rd: 1, Rn: 31, Rm: 31}, "ldr x1, [sp, xzr, lsl #0]")
	told(t, api.Insn{Op: api.StrReg, Rd: 1, Rn: 2, Rm: 3, Amount: 3}, "str x1, [x2, x3, lsl #3]")
	told(t, api.Insn{Op: api.Ldar, Rd: 1, Rn: 31}, "ldar x1, [sp]")
	told(t, api.Insn{Op: api.Ldar, Rd: 1, Rn: 2, Sub: 1}, "ldapr x1, [x2]")
	told(t, api.Insn{Op: api.Stlr, Rd: 31, Rn: 31}, "stlr xzr, [sp]")
	told(t, api.Insn{Op: api.Ldxr, Rd: 1, Rn: 2}, "ldxr x1, [x2]")
	told(t, api.Insn{Op: api.Ldxr, Rd: 31, Rn: 31, Sub: 1}, "ldaxr xzr, [sp]")
	told(t, api.Insn{Op: api.Stxr, Rd: 31, Rn: 31, Rm: 31}, "stxr xzr, xzr, [sp]")
	told(t, api.Insn{Op: api.Stxr, Rd: 1, Rn: 2, Rm: 3}, "stxr x3, x1, [x2]")
	told(t, api.Insn{Op: api.Clrex}, "clrex")
	told(t, api.Insn{Op: api.Isb}, "isb")
	told(t, api.Insn{Op: api.IcIallu}, "ic iallu")
	told(t, api.Insn{Op: api.Eret}, "eret")
	for k, word := range []string{"ld", "st", "sy"} {
		told(t, api.Insn{Op: api.Dmb, Imm: k + 1}, "dmb "+word)
		told(t, api.Insn{Op: api.Dmb, Sub: 1, Imm: k + 1}, "dsb "+word)
	}
	told(t, api.Insn{Op: api.IcIvau, Rd: 31}, "ic ivau xzr")
	told(t, api.Insn{Op: api.DcCvau, Rd: 30}, "dc cvau x30")
	told(t, api.Insn{Op: api.Mrs, Rd: 4, Sys: api.SysVbar}, "mrs x4, #17920")
	told(t, api.Insn{Op: api.Msr, Rd: 31, Sys: api.SysNzcv}, "msr #23056, xzr")
	told(t, api.Insn{Op: api.MsrMask, Imm: 15}, "msr daifset, #15")
	told(t, api.Insn{Op: api.MsrMask, Sub: 1}, "msr daifclr, #0")
	told(t, api.Insn{Op: api.Svc, Imm: 5}, "svc #5")
	told(t, api.Insn{Op: api.Brk, Imm: 65535}, "brk #65535")
	for k := range 6 {
		told(t, api.Insn{Op: api.Hint, Imm: k}, "hint #"+string(rune('0'+k)))
	}
}

// P2.5: no two have one text, but LogImm with one mask.
func TestTextsDiffer(t *testing.T) {
	seen := map[string]api.Insn{}
	for _, i := range samples() {
		s, e := insn.Text(i)
		if s == "" || e != api.OK {
			t.Fatalf("Text(%+v): %q %v", i, s, e)
		}
		if j, ok := seen[s]; ok && i != j && !oneMask(i, j) {
			t.Fatalf("%q is of %+v and of %+v", s, i, j)
		}
		seen[s] = i
	}
}

func oneMask(i, j api.Insn) bool {
	if i.Op != api.LogImm || j.Op != api.LogImm {
		return false
	}
	a, _ := bits.Mask(i.Amount, i.Imm, i.Imm2)
	b, _ := bits.Mask(j.Amount, j.Imm, j.Imm2)
	j.Amount, j.Imm, j.Imm2 = i.Amount, i.Imm, i.Imm2
	return a == b && i == j
}

// P2.4, P2.5: two LogImm with one mask have one text.
func TestTextOfOneMask(t *testing.T) {
	told(t, api.Insn{Op: api.LogImm, Rd: 1, Rn: 2, Imm: 1, Imm2: 60}, "and x1, x2, #12297829382473034410")
	told(t, api.Insn{Op: api.LogImm, Rd: 1, Rn: 2, Imm: 3, Imm2: 60}, "and x1, x2, #12297829382473034410")
}

// P2.5: what is written is not read, unless the table says so.
func TestWrittenIsNotRead(t *testing.T) {
	for _, i := range samples() {
		i = apart(i)
		for _, w := range insn.Writes(i) {
			if slices.Contains(insn.Reads(i), w) != (i.Op == api.MovWide && i.Sub == 3) {
				t.Fatalf("%+v reads %v, writes %v", i, insn.Reads(i), insn.Writes(i))
			}
		}
	}
}

// apart gives each register that an instruction has a number of its own.
func apart(i api.Insn) api.Insn {
	for k := range 4 {
		j := i
		if *field(&j, k) = k + 3; insn.Right(j) {
			i = j
		}
	}
	return i
}
