package insn

import (
	"understudy/api"
	"understudy/bits"
)

// span is the multiples of step from low to high.
type span struct{ low, high, step int }

func upTo(high int) span {
	return span{0, high, 1}
}

// branch is where many bits of words reach, with signs: its step is that of a word.
func branch(many int) span {
	return span{-4 << (many - 1), 4<<(many-1) - 4, 4}
}

// holds leaves 0 alone where nothing is set, whose step would divide by 0.
func (s span) holds(number int) bool {
	return number >= s.low && number <= s.high && (number == 0 || number%s.step == 0)
}

// room is what an Op leaves to its fields: where it sets nothing the field must be 0, false.
type room struct {
	rd, rn, rm, ra          span
	sub, imm, imm2, amount  span
	shift, cond             span
	flags, minus, not, link bool
}

func roomOf(i api.Insn) room {
	var r room
	r.setRegisters(i.Op)
	r.setForm(i)
	r.imm, r.amount = immOf(i), amountOf(i.Op)
	if i.Op == api.LogImm || i.Op == api.Bitfield {
		r.imm2 = upTo(63)
	}
	return r
}

func (r *room) setRegisters(op int) {
	one := upTo(31)
	switch op {
	case api.Mul:
		r.ra = one
		fallthrough
	case api.AddReg, api.LogReg, api.ShiftReg, api.Div, api.Sel, api.LdrReg, api.StrReg, api.Stxr:
		r.rm = one
		fallthrough
	case api.AddImm, api.LogImm, api.Bitfield, api.Ldr, api.Str, api.Ldar, api.Stlr, api.Ldxr:
		r.rn = one
		fallthrough
	case api.MovWide, api.Adr, api.Cbz, api.Tbz, api.IcIvau, api.DcCvau, api.Mrs, api.Msr:
		r.rd = one
	case api.Br:
		r.rn = one
	}
}

// setForm is for what tells the words of one Op apart, and for the shift and the condition.
func (r *room) setForm(i api.Insn) {
	switch i.Op {
	case api.AddReg:
		r.shift = upTo(2)
		fallthrough
	case api.AddImm:
		r.flags = true
		fallthrough
	case api.Mul:
		r.minus = true
	case api.LogReg:
		r.shift, r.not = upTo(3), true
		fallthrough
	case api.LogImm:
		r.sub, r.flags = upTo(2), i.Sub == 0
	case api.Sel:
		r.cond = upTo(15)
		fallthrough
	case api.ShiftReg, api.MovWide:
		r.sub = upTo(3)
	case api.Bitfield:
		r.sub = span{0, 2, 2}
	case api.Br:
		r.sub = upTo(2)
	case api.Div, api.Adr, api.Ldar, api.Ldxr, api.Stxr, api.Dmb, api.MsrMask:
		r.sub = upTo(1)
	case api.B:
		r.link = true
	case api.BCond:
		r.cond = upTo(15)
	case api.Cbz, api.Tbz:
		r.not = true
	}
}

func immOf(i api.Insn) span {
	switch i.Op {
	case api.AddImm:
		return upTo(4095)
	case api.LogImm, api.Bitfield:
		return upTo(63)
	case api.MovWide, api.Svc, api.Brk:
		return upTo(65535)
	case api.Adr:
		if i.Sub == 1 {
			return span{-1 << 32, 1<<32 - 4096, 4096}
		}
		return span{-1 << 20, 1<<20 - 1, 1}
	case api.B:
		return branch(26)
	case api.BCond, api.Cbz:
		return branch(19)
	case api.Tbz:
		return branch(14)
	case api.Ldr, api.Str:
		return span{0, 32760, 8}
	case api.Dmb:
		return span{1, 3, 1}
	case api.MsrMask:
		return upTo(15)
	case api.Hint:
		return upTo(5)
	}
	return span{}
}

func amountOf(op int) span {
	switch op {
	case api.AddImm:
		return span{0, 12, 12}
	case api.AddReg, api.LogReg, api.Tbz:
		return upTo(63)
	case api.LogImm:
		return upTo(1)
	case api.MovWide:
		return span{0, 48, 16}
	case api.LdrReg, api.StrReg:
		return span{0, 3, 3}
	}
	return span{}
}

func (r room) numbers(i api.Insn) bool {
	return r.rd.holds(i.Rd) && r.rn.holds(i.Rn) && r.rm.holds(i.Rm) && r.ra.holds(i.Ra) &&
		r.sub.holds(i.Sub) && r.imm.holds(i.Imm) && r.imm2.holds(i.Imm2) && r.amount.holds(i.Amount) &&
		r.shift.holds(i.Shift) && r.cond.holds(i.Cond)
}

func (r room) signs(i api.Insn) bool {
	return (r.flags || !i.Flags) && (r.minus || !i.Minus) && (r.not || !i.Not) && (r.link || !i.Link)
}

func rightSys(i api.Insn) bool {
	if i.Op != api.Mrs && i.Op != api.Msr {
		return i.Sys == 0
	}
	switch i.Sys {
	case api.SysVbar, api.SysElr, api.SysSpsr, api.SysEsr, api.SysFar, api.SysSp0,
		api.SysMpidr, api.SysEl, api.SysDaif, api.SysNzcv, api.SysTpidr,
		api.SysIar, api.SysEoir, api.SysPmr, api.SysSgi, api.SysCnt, api.SysCtl, api.SysCval:
		return true
	}
	return false
}

// rightForm is for what no span tells.
func rightForm(i api.Insn) bool {
	switch i.Op {
	case api.LogImm:
		_, err := maskOf(i)
		return err == api.OK
	case api.MovWide:
		return i.Sub != 1
	}
	return true
}

func maskOf(i api.Insn) (uint64, api.Errno) {
	return bits.Mask(i.Amount, i.Imm, i.Imm2)
}
