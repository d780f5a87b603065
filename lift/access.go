package lift

import "understudy/api"

// dsb is the Sub of Dmb that waits for more than accesses.
const dsb = 1

// idleHints is how many hints, from 0 on, do nothing.
const idleHints = 2

// address asks the Op of Rm, as a store exclusive has its status there.
func (m *maker) address() place {
	base := m.xOrSP(m.Rn)
	switch m.Op {
	case api.Ldr, api.Str:
		return m.reckon(api.AAdd, base, m.number(uint64(m.Imm)))
	case api.LdrReg, api.StrReg:
		return m.reckon(api.AAdd, base, m.shifted(m.Rm))
	}
	return base
}

func (m *maker) loads(kind, order int) {
	addr := m.address()
	m.setX(m.Rd, m.put(api.Op{Kind: kind, A: addr, Order: order}))
}

func (m *maker) stores(kind, order int) place {
	addr := m.address()
	return m.put(api.Op{Kind: kind, A: addr, B: m.x(m.Rd), Order: order})
}

func (m *maker) load() {
	m.loads(api.ILoad, api.OPlain)
}

func (m *maker) loadAcquire() {
	orders := [2]int{api.OAcq, api.OAcqPC}
	m.loads(api.ILoad, orders[m.Sub])
}

func (m *maker) loadEx() {
	orders := [2]int{api.OPlain, api.OAcq}
	m.loads(api.ILoadEx, orders[m.Sub])
}

func (m *maker) store() {
	m.stores(api.IStore, api.OPlain)
}

func (m *maker) storeRelease() {
	m.stores(api.IStore, api.ORel)
}

func (m *maker) storeEx() {
	orders := [2]int{api.OPlain, api.ORel}
	m.setX(m.Rm, m.stores(api.IStoreEx, orders[m.Sub]))
}

func (m *maker) barrier() {
	if m.Sub == dsb {
		m.guest()
		return
	}
	fences := [4]int{1: api.FenceLd, 2: api.FenceSt, 3: api.FenceFull}
	m.put(api.Op{Kind: api.IFence, R: fences[m.Imm]})
}

func (m *maker) hint() {
	if m.Imm >= idleHints {
		m.guest()
	}
}
