package insn

import "understudy/api"

// stack is the number 31 where it is not the zero register.
const stack = 31

// set has a bit for each register: what is listed of it rises, each once.
type set uint32

func (s set) list() []int {
	var out []int
	for number := range 32 {
		if s>>number&1 == 1 {
			out = append(out, number)
		}
	}
	return out
}

// zeroOr leaves the zero register out, stackOr takes 31 as the stack pointer.
func zeroOr(number int) set {
	return 1 << number &^ (1 << stack)
}

func stackOr(number int) set {
	return 1 << number
}

// stackRd, stackRn: is the number 31 there the stack pointer?
func stackRd(i api.Insn) bool {
	return (i.Op == api.AddImm || i.Op == api.LogImm) && !i.Flags
}

func stackRn(i api.Insn) bool {
	return i.Op == api.AddImm || accesses(i.Op)
}

func accesses(op int) bool {
	return op >= api.Ldr && op <= api.Stxr
}

func setRd(i api.Insn) set {
	if stackRd(i) {
		return stackOr(i.Rd)
	}
	return zeroOr(i.Rd)
}

func setRn(i api.Insn) set {
	if stackRn(i) {
		return stackOr(i.Rn)
	}
	return zeroOr(i.Rn)
}

// reads, address and writes take what is right.
func reads(i api.Insn) set {
	var s set
	switch i.Op {
	case api.Mul:
		s |= zeroOr(i.Ra)
		fallthrough
	case api.AddReg, api.LogReg, api.ShiftReg, api.Div, api.Sel, api.LdrReg:
		s |= zeroOr(i.Rm)
		fallthrough
	case api.AddImm, api.LogImm, api.Bitfield, api.Br, api.Ldr, api.Ldar, api.Ldxr:
		s |= setRn(i)
	case api.StrReg:
		s |= zeroOr(i.Rm)
		fallthrough
	case api.Str, api.Stlr, api.Stxr:
		s |= setRn(i)
		fallthrough
	case api.Cbz, api.Tbz, api.IcIvau, api.DcCvau, api.Msr:
		s |= zeroOr(i.Rd)
	case api.MovWide:
		if i.Sub == 3 {
			s |= zeroOr(i.Rd)
		}
	}
	return s
}

func address(i api.Insn) set {
	var s set
	switch i.Op {
	case api.LdrReg, api.StrReg:
		s |= zeroOr(i.Rm)
		fallthrough
	case api.Ldr, api.Str, api.Ldar, api.Stlr, api.Ldxr, api.Stxr:
		s |= setRn(i)
	case api.IcIvau, api.DcCvau:
		s |= zeroOr(i.Rd)
	}
	return s
}

func writes(i api.Insn) set {
	switch i.Op {
	case api.Ldr, api.LdrReg, api.Ldar, api.Ldxr, api.Mrs:
		return setRd(i)
	case api.Stxr:
		return zeroOr(i.Rm)
	case api.B:
		if i.Link {
			return zeroOr(30)
		}
	case api.Br:
		if i.Sub == 1 {
			return zeroOr(30)
		}
	}
	if i.Op <= api.Adr {
		return setRd(i)
	}
	return 0
}
