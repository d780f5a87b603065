package lift

import "understudy/api"

// spare is the register 31: the zero register, or, where an instruction says so, the stack pointer.
const spare = 31

// The flags, as operations number them.
const (
	flagN = iota
	flagZ
	flagC
	flagV
)

// maker lays down a block's operations; it is at one of its instructions.
type maker struct {
	api.Insn
	word uint32
	at   uint64 // the instruction's address
	ops  []api.Op
	left bool // nothing can be laid down behind: the last operation leaves the block whatever comes
}

// place names a value by the operation that defines it.
type place = int

func (m *maker) put(o api.Op) place {
	m.ops = append(m.ops, o)
	return len(m.ops) - 1
}

// instruction finds what the instruction becomes, by its Op.
func (m *maker) instruction() {
	becomes := [api.Hint + 1]func(*maker){
		api.Undef:    (*maker).guest,
		api.AddImm:   (*maker).addImm,
		api.AddReg:   (*maker).addReg,
		api.LogReg:   (*maker).logReg,
		api.LogImm:   (*maker).logImm,
		api.MovWide:  (*maker).movWide,
		api.Bitfield: (*maker).bitfield,
		api.ShiftReg: (*maker).shiftReg,
		api.Mul:      (*maker).multiply,
		api.Div:      (*maker).divide,
		api.Sel:      (*maker).choose,
		api.Adr:      (*maker).adr,
		api.B:        (*maker).branch,
		api.BCond:    (*maker).branchCond,
		api.Cbz:      (*maker).branchZero,
		api.Tbz:      (*maker).branchBit,
		api.Br:       (*maker).branchTo,
		api.Ldr:      (*maker).load,
		api.Str:      (*maker).store,
		api.LdrReg:   (*maker).load,
		api.StrReg:   (*maker).store,
		api.Ldar:     (*maker).loadAcquire,
		api.Stlr:     (*maker).storeRelease,
		api.Ldxr:     (*maker).loadEx,
		api.Stxr:     (*maker).storeEx,
		api.Clrex:    (*maker).guest,
		api.Dmb:      (*maker).barrier,
		api.Isb:      (*maker).guest,
		api.IcIvau:   (*maker).guest,
		api.IcIallu:  (*maker).guest,
		api.DcCvau:   (*maker).guest,
		api.Mrs:      (*maker).guest,
		api.Msr:      (*maker).guest,
		api.MsrMask:  (*maker).guest,
		api.Svc:      (*maker).guest,
		api.Brk:      (*maker).guest,
		api.Eret:     (*maker).guest,
		api.Hint:     (*maker).hint,
	}
	becomes[m.Op](m)
}

func (m *maker) number(n uint64) place {
	return m.put(api.Op{Kind: api.IConst, Imm: n})
}

func (m *maker) reckon(kind int, a, b place) place {
	return m.put(api.Op{Kind: api.IAlu, R: kind, A: a, B: b})
}

func (m *maker) x(r int) place {
	if r == spare {
		return m.number(0)
	}
	return m.put(api.Op{Kind: api.IGetX, R: r})
}

func (m *maker) xOrSP(r int) place {
	if r == spare {
		return m.put(api.Op{Kind: api.IGetSP})
	}
	return m.x(r)
}

func (m *maker) setX(r int, a place) {
	if r != spare {
		m.put(api.Op{Kind: api.ISetX, R: r, A: a})
	}
}

func (m *maker) setXOrSP(r int, a place) {
	if r == spare {
		m.put(api.Op{Kind: api.ISetSP, A: a})
		return
	}
	m.setX(r, a)
}

func (m *maker) flag(n int) place {
	return m.put(api.Op{Kind: api.IGetF, R: n})
}

// setFlags is the only place where flags are set, so that none is forgotten.
func (m *maker) setFlags(n, z, c, v place) {
	for r, a := range [4]place{flagN: n, flagZ: z, flagC: c, flagV: v} {
		m.put(api.Op{Kind: api.ISetF, R: r, A: a})
	}
}
