package insn

import (
	"strconv"
	"strings"

	"understudy/api"
)

// wordOf takes what is right, as partsOf does.
func wordOf(i api.Insn) string {
	switch i.Op {
	case api.AddImm, api.AddReg:
		return either(i.Minus, "add", "sub") + either(i.Flags, "", "s")
	case api.LogReg, api.LogImm:
		return logic(i) + either(i.Flags, "", "s")
	case api.MovWide:
		return one(i.Sub, "movn", "", "movz", "movk")
	case api.Bitfield:
		return one(i.Sub, "sbfm", "", "ubfm")
	case api.ShiftReg:
		return shift(i.Sub)
	case api.Mul:
		return either(i.Minus, "madd", "msub")
	case api.Div:
		return one(i.Sub, "udiv", "sdiv")
	case api.Sel:
		return one(i.Sub, "csel", "csinc", "csinv", "csneg")
	case api.Adr:
		return one(i.Sub, "adr", "adrp")
	case api.B:
		return either(i.Link, "b", "bl")
	case api.BCond:
		return "b." + condition(i.Cond)
	case api.Cbz:
		return either(i.Not, "cbz", "cbnz")
	case api.Tbz:
		return either(i.Not, "tbz", "tbnz")
	case api.Br:
		return one(i.Sub, "br", "blr", "ret")
	}
	return outward(i)
}

// outward is of what asks something of the world beside the core's registers.
func outward(i api.Insn) string {
	switch i.Op {
	case api.Ldr, api.LdrReg:
		return "ldr"
	case api.Str, api.StrReg:
		return "str"
	case api.Ldar:
		return one(i.Sub, "ldar", "ldapr")
	case api.Stlr:
		return "stlr"
	case api.Ldxr:
		return one(i.Sub, "ldxr", "ldaxr")
	case api.Stxr:
		return one(i.Sub, "stxr", "stlxr")
	case api.Clrex:
		return "clrex"
	case api.Dmb:
		return one(i.Sub, "dmb", "dsb")
	case api.Isb:
		return "isb"
	case api.IcIvau:
		return "ic ivau"
	case api.IcIallu:
		return "ic iallu"
	case api.DcCvau:
		return "dc cvau"
	case api.Mrs:
		return "mrs"
	case api.Msr, api.MsrMask:
		return "msr"
	case api.Svc:
		return "svc"
	case api.Brk:
		return "brk"
	case api.Eret:
		return "eret"
	}
	return "hint"
}

func either(is bool, no, yes string) string {
	if is {
		return yes
	}
	return no
}

func one(which int, words ...string) string {
	return words[which]
}

func logic(i api.Insn) string {
	if i.Not {
		return one(i.Sub, "bic", "orn", "eon")
	}
	return one(i.Sub, "and", "orr", "eor")
}

func shift(which int) string {
	return one(which, "lsl", "lsr", "asr", "ror")
}

func condition(which int) string {
	return one(which, "eq", "ne", "cs", "cc", "mi", "pl", "vs", "vc", "hi", "ls", "ge", "lt", "gt", "le", "al", "nv")
}

func partsOf(i api.Insn) []string {
	rd, rn, rm := name(i.Rd, stackRd(i)), name(i.Rn, stackRn(i)), name(i.Rm, false)
	switch i.Op {
	case api.AddImm:
		return append([]string{rd, rn, number(i.Imm)}, shifted(0, i.Amount)...)
	case api.AddReg, api.LogReg:
		return append([]string{rd, rn, rm}, shifted(i.Shift, i.Amount)...)
	case api.LogImm:
		return []string{rd, rn, mask(i)}
	case api.MovWide:
		return append([]string{rd, number(i.Imm)}, shifted(0, i.Amount)...)
	case api.Bitfield:
		return []string{rd, rn, number(i.Imm), number(i.Imm2)}
	case api.ShiftReg, api.Div:
		return []string{rd, rn, rm}
	case api.Mul:
		return []string{rd, rn, rm, name(i.Ra, false)}
	case api.Sel:
		return []string{rd, rn, rm, condition(i.Cond)}
	case api.Br:
		return []string{rn}
	case api.Ldr, api.Str:
		return []string{rd, place(rn, number(i.Imm))}
	case api.LdrReg, api.StrReg:
		return []string{rd, place(rn, rm, shift(0)+" "+number(i.Amount))}
	case api.Ldar, api.Stlr, api.Ldxr:
		return []string{rd, place(rn)}
	case api.Stxr:
		return []string{rm, rd, place(rn)}
	case api.Dmb:
		return []string{one(i.Imm-1, "ld", "st", "sy")}
	case api.IcIvau, api.DcCvau:
		return []string{rd}
	case api.Mrs:
		return []string{rd, number(i.Sys)}
	case api.Msr:
		return []string{number(i.Sys), rd}
	}
	return lastImm(i)
}

// lastImm is of what has its Imm at the end.
func lastImm(i api.Insn) []string {
	var parts []string
	switch i.Op {
	case api.Adr, api.Cbz, api.Tbz:
		parts = append(parts, name(i.Rd, false))
		if i.Op == api.Tbz {
			parts = append(parts, number(i.Amount))
		}
		fallthrough
	case api.B, api.BCond, api.Svc, api.Brk, api.Hint:
		parts = append(parts, number(i.Imm))
	case api.MsrMask:
		parts = append(parts, one(i.Sub, "daifset", "daifclr"), number(i.Imm))
	}
	return parts
}

func name(register int, stackThere bool) string {
	switch {
	case register != stack:
		return "x" + strconv.Itoa(register)
	case stackThere:
		return "sp"
	}
	return "xzr"
}

func number(value int) string {
	return "#" + strconv.Itoa(value)
}

func mask(i api.Insn) string {
	value, _ := maskOf(i)
	return "#" + strconv.FormatUint(value, 10)
}

// shifted is no part where nothing is shifted, so that a shift by 0 other than LSL is told apart.
func shifted(which, amount int) []string {
	if which == 0 && amount == 0 {
		return nil
	}
	return []string{shift(which) + " " + number(amount)}
}

func place(parts ...string) string {
	return "[" + strings.Join(parts, ", ") + "]"
}
