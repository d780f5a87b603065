package hostmem

import "understudy/api"

// Store is a core's store, which waits in its buffer: its ticket.
func (m *Mem) Store(core int, addr, value uint64) (int, api.Errno) {
	if !m.hasWord(addr) {
		return 0, api.ErrArg
	}
	s, e := m.at(core, (*buffer).hold, m.next(addr, value))
	if e != api.OK {
		return 0, e
	}
	m.give()
	return s.Ticket, api.OK
}

// next is a store with the ticket that is given next; a full buffer may refuse it, so that giving it is a step of its own.
func (m *Mem) next(addr, value uint64) api.Late {
	return api.Late{Addr: addr, Value: value, Ticket: m.Tickets() + 1}
}

func (m *Mem) give() { m.stamps = append(m.stamps, 0) }

// reach lays a store down in memory, as the last of all that did so far.
func (m *Mem) reach(s api.Late) {
	m.words[s.Addr/8] = word{s.Value, s.Ticket}
	m.reached++
	m.stamps[s.Ticket-1] = m.reached
}

// Drain lets a core's oldest store reach memory.
func (m *Mem) Drain(core int) (api.Late, api.Errno) {
	s, e := m.at(core, (*buffer).release, api.Late{})
	if e != api.OK {
		return api.Late{}, e
	}
	m.reach(s)
	return s, api.OK
}

// Flush lets all of a core's stores reach memory.
func (m *Mem) Flush(core int) ([]api.Late, api.Errno) {
	if !m.hasCore(core) {
		return nil, api.ErrArg
	}
	var gone []api.Late
	for s, e := m.Drain(core); e == api.OK; s, e = m.Drain(core) {
		gone = append(gone, s)
	}
	return gone, api.OK
}

// Put is a store that reaches memory at once, behind all of the core's others.
func (m *Mem) Put(core int, addr, value uint64) (int, []api.Late, api.Errno) {
	if !m.hasWord(addr) {
		return 0, nil, api.ErrArg
	}
	gone, e := m.Flush(core)
	if e != api.OK {
		return 0, nil, e
	}
	s := m.next(addr, value)
	m.give()
	m.reach(s)
	return s.Ticket, gone, api.OK
}

// Held are the stores that a core's buffer holds, the oldest first.
func (m *Mem) Held(core int) []api.Late {
	if !m.hasCore(core) {
		return nil
	}
	return append([]api.Late(nil), m.buffers[core].held...)
}

// Stamp is a ticket's place in the order in which stores reached memory; 0, if it has none.
func (m *Mem) Stamp(ticket int) int {
	if ticket < 1 || ticket > len(m.stamps) {
		return 0
	}
	return m.stamps[ticket-1]
}

// Order are the tickets of the stores that reached memory, by their stamps. Stamps are 1, 2, .. without a gap: each one is its ticket's place.
func (m *Mem) Order() []int {
	order := make([]int, m.reached)
	for k, stamp := range m.stamps {
		if stamp > 0 {
			order[stamp-1] = k + 1
		}
	}
	return order
}

// Tickets is how many have been given.
func (m *Mem) Tickets() int { return len(m.stamps) }
