package sem

import (
	"understudy/alu"
	"understudy/api"
	"understudy/bits"
)

func (s *step) addImm() {
	s.setWithImm(s.sum(s.xOrSP(s.Rn), uint64(s.Imm)<<s.Amount))
}

func (s *step) addReg() {
	s.setX(s.Rd, s.sum(s.x(s.Rn), s.shifted()))
}

func (s *step) logReg() {
	s.setX(s.Rd, s.logic(s.x(s.Rn), s.shifted()))
}

func (s *step) logImm() {
	mask, _ := bits.Mask(s.Amount, s.Imm, s.Imm2)
	s.setWithImm(s.logic(s.x(s.Rn), mask))
}

// setWithImm: of what has an immediate, 31 is the stack pointer where flags are not set.
func (s *step) setWithImm(value uint64) {
	if s.Flags {
		s.setX(s.Rd, value)
		return
	}
	s.setXOrSP(s.Rd, value)
}

// sum takes a number away by adding all its bits turned, and one.
func (s *step) sum(a, b uint64) uint64 {
	if s.Minus {
		b = ^b
	}
	value, flags := alu.Add(a, b, s.Minus)
	s.setFlags(flags)
	return value
}

func (s *step) logic(a, b uint64) uint64 {
	if s.Not {
		b = ^b
	}
	kinds := [3]int{api.AAnd, api.AOr, api.AXor}
	value := reckon(kinds[s.Sub], a, b)
	s.setFlags(alu.Flags{N: value>>63 == 1, Z: value == 0})
	return value
}

func (s *step) setFlags(f alu.Flags) {
	if s.Flags {
		s.core.N, s.core.Z, s.core.C, s.core.V = f.N, f.Z, f.C, f.V
	}
}

// shifted is the second number of what has three registers.
func (s *step) shifted() uint64 {
	value, _ := alu.Shift(s.x(s.Rm), s.Shift, s.Amount)
	return value
}

func reckon(kind int, a, b uint64) uint64 {
	value, _ := alu.Reckon(kind, a, b)
	return value
}

func (s *step) movWide() {
	part := uint64(s.Imm) << s.Amount
	switch s.Sub {
	case 0:
		part = ^part
	case 3:
		part |= s.x(s.Rd) &^ (0xFFFF << s.Amount)
	}
	s.setX(s.Rd, part)
}

func (s *step) bitfield() {
	value, _ := alu.Field(s.x(s.Rn), s.Sub == 0, s.Imm, s.Imm2)
	s.setX(s.Rd, value)
}

func (s *step) shiftReg() {
	value, _ := alu.Shift(s.x(s.Rn), s.Sub, int(s.x(s.Rm)%64))
	s.setX(s.Rd, value)
}

func (s *step) multiply() {
	kind := api.AAdd
	if s.Minus {
		kind = api.ASub
	}
	product := reckon(api.AMul, s.x(s.Rn), s.x(s.Rm))
	s.setX(s.Rd, reckon(kind, s.x(s.Ra), product))
}

func (s *step) divide() {
	kinds := [2]int{api.AUdiv, api.ASdiv}
	s.setX(s.Rd, reckon(kinds[s.Sub], s.x(s.Rn), s.x(s.Rm)))
}

func (s *step) choose() {
	if s.holds() {
		s.setX(s.Rd, s.x(s.Rn))
		return
	}
	other := s.x(s.Rm)
	others := [4]uint64{other, other + 1, ^other, -other}
	s.setX(s.Rd, others[s.Sub])
}
