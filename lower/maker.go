package lower

import (
	"slices"

	"understudy/api"
	"understudy/ir"
)

// maker lays down the micro-code of a block; it is at one of its operations.
type maker struct {
	api.Op
	at    int // its place, which names the value that it defines
	regs  int
	table table
	users [][]int        // by values: the places of the operations that use them, rising
	slots map[int]uint64 // of the values that were spilled: each one has a slot of its own, so that once is enough
	code  []api.Micro
}

func newMaker(ops []api.Op, regs int) *maker {
	return &maker{regs: regs, table: noneHeld(), users: usersOf(ops), slots: map[int]uint64{}}
}

func usersOf(ops []api.Op) [][]int {
	users := make([][]int, len(ops))
	for k, o := range ops {
		for _, value := range ir.Uses(o) {
			users[value] = append(users[value], k)
		}
	}
	return users
}

// way is what a kind of operation becomes, and who lays that down.
type way struct {
	kind int
	lay  func(*maker, api.Micro)
}

func (m *maker) operation() {
	ways := [...]way{
		api.IConst:   {api.MConst, (*maker).define},
		api.IGetX:    {api.MGetX, (*maker).define},
		api.ISetX:    {api.MSetX, (*maker).use},
		api.IGetSP:   {api.MGetSP, (*maker).define},
		api.ISetSP:   {api.MSetSP, (*maker).use},
		api.IGetF:    {api.MGetF, (*maker).define},
		api.ISetF:    {api.MSetF, (*maker).use},
		api.IAlu:     {api.MAlu, (*maker).reckon},
		api.ILoad:    {api.MLoad, (*maker).load},
		api.IStore:   {api.MStore, (*maker).store},
		api.ILoadEx:  {api.MLoadEx, (*maker).load},
		api.IStoreEx: {api.MStoreEx, (*maker).reckon},
		api.IFence:   {api.MNote, (*maker).fence},
		api.IAt:      {api.MAt, (*maker).put},
		api.IExitIf:  {api.MExitIf, (*maker).use},
		api.IExit:    {api.MExit, (*maker).put},
		api.IExitTo:  {api.MExitTo, (*maker).use},
		api.IGuest:   {api.MGuest, (*maker).put},
	}
	w := ways[m.Kind]
	w.lay(m, api.Micro{Kind: w.kind, R: m.R, Order: m.Order, Imm: m.Imm})
}

func (m *maker) put(o api.Micro) {
	m.code = append(m.code, o)
}

func (m *maker) define(o api.Micro) {
	m.put(m.withD(o))
}

func (m *maker) use(o api.Micro) {
	m.put(m.withA(o))
}

func (m *maker) load(o api.Micro) {
	m.put(m.withD(m.withA(o)))
}

func (m *maker) reckon(o api.Micro) {
	m.put(m.withD(m.withBoth(o)))
}

// store lets a store with a release reach memory ahead of all that follows: the host would let its own loads go by.
func (m *maker) store(o api.Micro) {
	m.put(m.withBoth(o))
	if o.Order == api.ORel {
		m.put(api.Micro{Kind: api.MFence})
	}
}

// fence needs the host's for a full one alone: the others ask only for what the host keeps by itself.
func (m *maker) fence(o api.Micro) {
	if o.R == api.FenceFull {
		m.put(api.Micro{Kind: api.MFence})
	}
	m.put(o)
}

func (m *maker) withA(o api.Micro) api.Micro {
	o.A = m.bring(m.A)
	m.letGo(m.A)
	return o
}

// withBoth lets neither go ahead of the other one's coming: what is wanted now is wanted first, and keeps its register.
func (m *maker) withBoth(o api.Micro) api.Micro {
	o.A = m.bring(m.A)
	o.B = m.bring(m.B)
	m.letGo(m.A)
	m.letGo(m.B)
	return o
}

// withD comes behind what is read, whose register it may take.
func (m *maker) withD(o api.Micro) api.Micro {
	o.D = m.room()
	m.table = m.table.holding(o.D, m.at, m.wantedNext(m.at))
	return o
}

// bring is the register that holds a value which the operation uses.
func (m *maker) bring(value int) int {
	reg := m.table.find(value)
	if reg < 0 {
		reg = m.room()
		m.put(api.Micro{Kind: api.MFill, D: reg, Imm: m.slots[value]})
		m.table = m.table.holding(reg, value, m.at)
	}
	return reg
}

// letGo tells who wants a value next that the operation has used.
func (m *maker) letGo(value int) {
	m.table = m.table.holding(m.table.find(value), value, m.wantedNext(value))
}

// room is a register that may be set: what it holds is spilled, if it is wanted and no slot has it.
func (m *maker) room() int {
	reg := m.table.latest(m.regs)
	value := m.table.value[reg]
	if _, has := m.slots[value]; !has && m.table.wanted[reg] != never {
		slot := uint64(len(m.slots))
		m.slots[value] = slot
		m.put(api.Micro{Kind: api.MSpill, A: reg, Imm: slot})
	}
	return reg
}

// wantedNext is the place of the next operation behind this one that uses a value.
func (m *maker) wantedNext(value int) int {
	users := m.users[value]
	next, _ := slices.BinarySearch(users, m.at+1)
	if next == len(users) {
		return never
	}
	return users[next]
}
