package sem

import "understudy/api"

const linkRegister = 30

// at is the instruction's own address: the PC has gone on already.
func (s *step) at() uint64 {
	return s.core.PC - insnBytes
}

func (s *step) adr() {
	from := s.at()
	if s.Sub == 1 {
		from &^= api.Page - 1
	}
	s.setX(s.Rd, from+uint64(s.Imm))
}

func (s *step) branch() {
	if s.Link {
		s.setX(linkRegister, s.core.PC)
	}
	s.jumpIf(true)
}

func (s *step) branchCond() {
	s.jumpIf(s.holds())
}

func (s *step) branchZero() {
	s.jumpIf((s.x(s.Rd) == 0) != s.Not)
}

func (s *step) branchBit() {
	isOne := s.x(s.Rd)>>s.Amount&1 == 1
	s.jumpIf(isOne == s.Not)
}

func (s *step) jumpIf(taken bool) {
	if taken {
		s.core.PC = s.at() + uint64(s.Imm)
	}
}

// branchTo reads Rn first, which may be the link register itself.
func (s *step) branchTo() {
	to := s.x(s.Rn)
	if s.Sub == 1 {
		s.setX(linkRegister, s.core.PC)
	}
	s.core.PC = to
}
