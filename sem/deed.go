package sem

import "understudy/api"

// insnBytes is how many bytes an instruction has.
const insnBytes = 4

// end is the state behind an instruction that takes no exception.
func (s *step) end() (api.Core, api.Errno) {
	s.core.PC += insnBytes
	s.do()
	if s.err != api.OK {
		return api.Core{}, s.err
	}
	return s.core, api.OK
}

// do finds what the Op does; an Op that is not in the list does nothing more.
func (s *step) do() {
	deeds := [api.Hint + 1]func(){
		api.AddImm:   s.addImm,
		api.AddReg:   s.addReg,
		api.LogReg:   s.logReg,
		api.LogImm:   s.logImm,
		api.MovWide:  s.movWide,
		api.Bitfield: s.bitfield,
		api.ShiftReg: s.shiftReg,
		api.Mul:      s.multiply,
		api.Div:      s.divide,
		api.Sel:      s.choose,
		api.Adr:      s.adr,

		api.B:     s.branch,
		api.BCond: s.branchCond,
		api.Cbz:   s.branchZero,
		api.Tbz:   s.branchBit,
		api.Br:    s.branchTo,

		api.Ldr:    s.loaded,
		api.LdrReg: s.loaded,
		api.Ldar:   s.loaded,
		api.Ldxr:   s.loaded,
		api.Stxr:   s.storedEx,

		api.Mrs:     s.mrs,
		api.Msr:     s.msr,
		api.MsrMask: s.msrMask,
		api.Eret:    s.eret,
		api.Hint:    s.hint,
	}
	if deed := deeds[s.Op]; deed != nil {
		deed()
	}
}

func (s *step) loaded() {
	s.setX(s.Rd, s.got.Value)
}

// storedEx tells 0 of what was done.
func (s *step) storedEx() {
	status := uint64(1)
	if s.got.Ok {
		status = 0
	}
	s.setX(s.Rm, status)
}
