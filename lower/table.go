package lower

import (
	"slices"

	"understudy/api"
)

// never is a place behind all operations: there stands what nobody wants.
const never = api.MaxOps

// table tells of each register which value it holds, and the place where that is wanted next. It is handed on as a copy:
// who has one has it alone. (No value has the number 0, as each block begins with an IAt.)
type table struct {
	value, wanted [api.HostRegs]int
}

func noneHeld() table {
	var t table
	for reg := range t.wanted {
		t.wanted[reg] = never
	}
	return t
}

func (t table) holding(reg, value, wanted int) table {
	t.value[reg], t.wanted[reg] = value, wanted
	return t
}

// find is the register that holds a value; -1: none does.
func (t table) find(value int) int {
	return slices.Index(t.value[:], value)
}

// latest is the register, of so many, that holds what is wanted latest: one that nobody wants, if there is one.
func (t table) latest(regs int) int {
	latest := 0
	for reg := range regs {
		if t.wanted[reg] > t.wanted[latest] {
			latest = reg
		}
	}
	return latest
}
