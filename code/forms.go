package code

import "understudy/api"

// each stands for a Sub that is one of the form's fields.
const each = -1

// form is a kind of words: those that have the base's bits where the mask has ones.
// The mask has just the bits that no field has, so that fields and base make up the word.
type form struct {
	op, sub    int
	mask, base uint32
	fields     func(*pair)
}

// holds takes what is right: a Sub that is no field is 0, unless the base hangs on it.
func (f *form) holds(i api.Insn) bool {
	return f.op == i.Op && (f.sub == i.Sub || f.sub == each)
}

func (f *form) apart(word uint32) api.Insn {
	p := pair{word: word, insn: api.Insn{Op: f.op, Sub: f.sub}}
	f.fields(&p)
	return p.insn
}

func (f *form) together(i api.Insn) uint32 {
	p := pair{word: f.base, insn: i, laying: true}
	f.fields(&p)
	return p.word
}

// allForms is an array, not a list, as it is made anew for every word.
func allForms() [40]form {
	return [40]form{
		{api.AddImm, 0, 0x9F800000, 0x91000000, (*pair).addImm},
		{api.AddReg, 0, 0x9F200000, 0x8B000000, (*pair).addReg},
		{api.LogReg, each, 0x9F000000, 0x8A000000, (*pair).logReg},
		{api.LogImm, each, 0x9F800000, 0x92000000, (*pair).logImm},
		{api.MovWide, each, 0x9F800000, 0x92800000, (*pair).movWide},
		{api.Bitfield, each, 0x9FC00000, 0x93400000, (*pair).bitfield},
		{api.ShiftReg, each, 0xFFE0F000, 0x9AC02000, (*pair).shiftReg},
		{api.Mul, 0, 0xFFE00000, 0x9B000000, (*pair).mul},
		{api.Div, each, 0xFFE0F800, 0x9AC00800, (*pair).div},
		{api.Sel, each, 0xBFE00800, 0x9A800000, (*pair).sel},
		{api.Adr, each, 0x1F000000, 0x10000000, (*pair).adr},
		{api.B, 0, 0x7C000000, 0x14000000, (*pair).b},
		{api.BCond, 0, 0xFF000010, 0x54000000, (*pair).bCond},
		{api.Cbz, 0, 0xFE000000, 0xB4000000, (*pair).cbz},
		{api.Tbz, 0, 0x7E000000, 0x36000000, (*pair).tbz},
		{api.Br, each, 0xFF9FFC1F, 0xD61F0000, (*pair).br},
		{api.Ldr, 0, 0xFFC00000, 0xF9400000, (*pair).atImm},
		{api.Str, 0, 0xFFC00000, 0xF9000000, (*pair).atImm},
		{api.LdrReg, 0, 0xFFE0EC00, 0xF8606800, (*pair).atReg},
		{api.StrReg, 0, 0xFFE0EC00, 0xF8206800, (*pair).atReg},
		{api.Ldar, 0, 0xFFFFFC00, 0xC8DFFC00, (*pair).rdRn},
		{api.Ldar, 1, 0xFFFFFC00, 0xF8BFC000, (*pair).rdRn},
		{api.Stlr, 0, 0xFFFFFC00, 0xC89FFC00, (*pair).rdRn},
		{api.Ldxr, each, 0xFFFF7C00, 0xC85F7C00, (*pair).ldxr},
		{api.Stxr, each, 0xFFE07C00, 0xC8007C00, (*pair).stxr},
		{api.Clrex, 0, 0xFFFFFFFF, 0xD5033F5F, (*pair).nothing},
		{api.Dmb, 0, 0xFFFFFCFF, 0xD5033CBF, (*pair).dmb},
		{api.Dmb, 1, 0xFFFFFCFF, 0xD5033C9F, (*pair).dmb},
		{api.Isb, 0, 0xFFFFFFFF, 0xD5033FDF, (*pair).nothing},
		{api.IcIvau, 0, 0xFFFFFFE0, 0xD50B7520, (*pair).rd},
		{api.DcCvau, 0, 0xFFFFFFE0, 0xD50B7B20, (*pair).rd},
		{api.IcIallu, 0, 0xFFFFFFFF, 0xD508751F, (*pair).nothing},
		{api.Mrs, 0, 0xFFF00000, 0xD5300000, (*pair).system},
		{api.Msr, 0, 0xFFF00000, 0xD5100000, (*pair).system},
		{api.MsrMask, 0, 0xFFFFF0FF, 0xD50340DF, (*pair).msrMask},
		{api.MsrMask, 1, 0xFFFFF0FF, 0xD50340FF, (*pair).msrMask},
		{api.Svc, 0, 0xFFE0001F, 0xD4000001, (*pair).call},
		{api.Brk, 0, 0xFFE0001F, 0xD4200000, (*pair).call},
		{api.Eret, 0, 0xFFFFFFFF, 0xD69F03E0, (*pair).nothing},
		{api.Hint, 0, 0xFFFFFF1F, 0xD503201F, (*pair).hint},
	}
}
