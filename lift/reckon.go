package lift

import (
	"understudy/api"
	"understudy/bits"
)

const ones = 1<<64 - 1

func (m *maker) addImm() {
	m.setWithImm(m.sum(m.xOrSP(m.Rn), m.number(uint64(m.Imm)<<m.Amount)))
}

func (m *maker) addReg() {
	m.setX(m.Rd, m.sum(m.x(m.Rn), m.shifted(m.Rm)))
}

func (m *maker) logReg() {
	a := m.x(m.Rn)
	b := m.shifted(m.Rm)
	if m.Not {
		b = m.turned(b)
	}
	m.setX(m.Rd, m.logic(a, b))
}

func (m *maker) logImm() {
	mask, _ := bits.Mask(m.Amount, m.Imm, m.Imm2) // what was decoded has one
	m.setWithImm(m.logic(m.x(m.Rn), m.number(mask)))
}

// setWithImm: of what has an immediate, 31 is the stack pointer where flags are not set.
func (m *maker) setWithImm(value place) {
	if m.Flags {
		m.setX(m.Rd, value)
		return
	}
	m.setXOrSP(m.Rd, value)
}

func (m *maker) sum(a, b place) place {
	if m.Minus {
		return m.difference(a, b)
	}
	value := m.reckon(api.AAdd, a, b)
	if m.Flags {
		carry := m.reckon(api.AUlt, value, a)
		m.setSumFlags(value, carry, m.reckon(api.AXor, a, value), m.reckon(api.AXor, b, value))
	}
	return value
}

// difference has the carry where nothing was borrowed.
func (m *maker) difference(a, b place) place {
	value := m.reckon(api.ASub, a, b)
	if m.Flags {
		carry := m.isZero(m.reckon(api.AUlt, a, b))
		m.setSumFlags(value, carry, m.reckon(api.AXor, a, b), m.reckon(api.AXor, a, value))
	}
	return value
}

// setSumFlags takes two numbers both of which are below 0 just where the sum with signs is not the sum.
func (m *maker) setSumFlags(value, carry, one, other place) {
	over := m.isNegative(m.reckon(api.AAnd, one, other))
	m.setFlags(m.isNegative(value), m.isZero(value), carry, over)
}

func (m *maker) logic(a, b place) place {
	kinds := [3]int{api.AAnd, api.AOr, api.AXor}
	value := m.reckon(kinds[m.Sub], a, b)
	if m.Flags {
		none := m.number(0)
		m.setFlags(m.isNegative(value), m.isZero(value), none, none)
	}
	return value
}

func (m *maker) isZero(a place) place {
	return m.reckon(api.AEq, a, m.number(0))
}

func (m *maker) isNegative(a place) place {
	return m.reckon(api.ASlt, a, m.number(0))
}

func (m *maker) turned(a place) place {
	return m.reckon(api.AXor, a, m.number(ones))
}

// shift has as kind what an instruction's Shift and Sub say.
func (m *maker) shift(a place, kind int, by place) place {
	kinds := [4]int{api.AShl, api.AShr, api.ASar, api.ARor}
	return m.reckon(kinds[kind], a, by)
}

// shifted is a register as the instruction's Shift and Amount have it; a shift by 0 is none.
func (m *maker) shifted(r int) place {
	a := m.x(r)
	if m.Amount == 0 {
		return a
	}
	return m.shift(a, m.Shift, m.number(uint64(m.Amount)))
}

func (m *maker) movWide() {
	part := uint64(m.Imm) << m.Amount
	switch m.Sub {
	case 0:
		m.setX(m.Rd, m.number(^part))
	case 2:
		m.setX(m.Rd, m.number(part))
	case 3:
		kept := m.reckon(api.AAnd, m.x(m.Rd), m.number(^(uint64(0xFFFF) << m.Amount)))
		m.setX(m.Rd, m.reckon(api.AOr, kept, m.number(part)))
	}
}

// bitfield pushes the field's highest bit up to bit 63, and then down to where it belongs, so that the second shift
// brings in what stands above the field.
func (m *maker) bitfield() {
	down := api.AShr
	if m.Sub == 0 {
		down = api.ASar
	}
	up := 63 - m.Imm2
	high := m.reckon(api.AShl, m.x(m.Rn), m.number(uint64(up)))
	m.setX(m.Rd, m.reckon(down, high, m.number(uint64(up+m.Imm)%64)))
}

func (m *maker) shiftReg() {
	m.setX(m.Rd, m.shift(m.x(m.Rn), m.Sub, m.x(m.Rm)))
}

func (m *maker) multiply() {
	kind := api.AAdd
	if m.Minus {
		kind = api.ASub
	}
	product := m.reckon(api.AMul, m.x(m.Rn), m.x(m.Rm))
	m.setX(m.Rd, m.reckon(kind, m.x(m.Ra), product))
}

func (m *maker) divide() {
	kinds := [2]int{api.AUdiv, api.ASdiv}
	m.setX(m.Rd, m.reckon(kinds[m.Sub], m.x(m.Rn), m.x(m.Rm)))
}

// choose adds to the second number what the first one is more, once or not at all: there is no operation that chooses.
func (m *maker) choose() {
	a := m.x(m.Rn)
	b := m.otherwise(m.x(m.Rm))
	more := m.reckon(api.AMul, m.reckon(api.ASub, a, b), m.holds())
	m.setX(m.Rd, m.reckon(api.AAdd, b, more))
}

func (m *maker) otherwise(b place) place {
	switch m.Sub {
	case 1:
		return m.reckon(api.AAdd, b, m.number(1))
	case 2:
		return m.turned(b)
	case 3:
		return m.reckon(api.ASub, m.number(0), b)
	}
	return b
}

func (m *maker) adr() {
	from := m.at
	if m.Sub == 1 {
		from &^= api.Page - 1
	}
	m.setX(m.Rd, m.number(from+uint64(m.Imm)))
}
