package lift

import "understudy/api"

const linkRegister = 30

// always is the condition from which on all hold.
const always = 14

func (m *maker) exit(to uint64) {
	m.put(api.Op{Kind: api.IExit, Imm: to})
	m.left = true
}

// guest leaves the word to who runs the block.
func (m *maker) guest() {
	m.put(api.Op{Kind: api.IGuest, Imm: uint64(m.word)})
	m.left = true
}

func (m *maker) target() uint64 {
	return m.at + uint64(m.Imm)
}

func (m *maker) link() {
	m.setX(linkRegister, m.number(m.at+insnBytes))
}

func (m *maker) branch() {
	if m.Link {
		m.link()
	}
	m.exit(m.target())
}

// branchTo reads Rn first, which may be the link register itself.
func (m *maker) branchTo() {
	to := m.x(m.Rn)
	if m.Sub == 1 {
		m.link()
	}
	m.put(api.Op{Kind: api.IExitTo, A: to})
	m.left = true
}

func (m *maker) branchCond() {
	m.branchIf(m.holds())
}

func (m *maker) branchZero() {
	m.branchOnZero(m.x(m.Rd))
}

func (m *maker) branchBit() {
	m.branchOnZero(m.reckon(api.AAnd, m.x(m.Rd), m.number(1<<m.Amount)))
}

// branchOnZero branches if the value is 0, with Not if it is not.
func (m *maker) branchOnZero(a place) {
	if !m.Not {
		a = m.isZero(a)
	}
	m.branchIf(a)
}

func (m *maker) branchIf(a place) {
	m.put(api.Op{Kind: api.IExitIf, A: a, Imm: m.target()})
}

// holds is 1, if the instruction's condition holds, else 0: each odd one is the one ahead of it turned, but for the last.
func (m *maker) holds() place {
	if m.Cond >= always {
		return m.number(1)
	}
	is := m.evenHolds()
	if m.Cond%2 == 1 {
		return m.isZero(is)
	}
	return is
}

func (m *maker) evenHolds() place {
	switch m.Cond / 2 {
	case 0:
		return m.flag(flagZ)
	case 1:
		return m.flag(flagC)
	case 2:
		return m.flag(flagN)
	case 3:
		return m.flag(flagV)
	case 4:
		return m.butNotZ(m.flag(flagC))
	case 5:
		return m.sameSigns()
	}
	return m.butNotZ(m.sameSigns())
}

// butNotZ is of two that are 0 or 1: Z is below the other one in one case alone.
func (m *maker) butNotZ(a place) place {
	return m.reckon(api.AUlt, m.flag(flagZ), a)
}

func (m *maker) sameSigns() place {
	return m.reckon(api.AEq, m.flag(flagN), m.flag(flagV))
}
