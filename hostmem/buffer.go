package hostmem

import "understudy/api"

// buffer holds the stores of a core that have not reached memory, the oldest first.
type buffer struct {
	depth int
	held  []api.Late
}

// deed is what may be done to a buffer: a method of it, taken as an expression, so that one place finds a core's buffer for all of them.
type deed func(b *buffer, s api.Late) (api.Late, api.Errno)

func (m *Mem) at(core int, do deed, s api.Late) (api.Late, api.Errno) {
	if !m.hasCore(core) {
		return api.Late{}, api.ErrArg
	}
	return do(&m.buffers[core], s)
}

// hold takes a store in, as the newest one.
func (b *buffer) hold(s api.Late) (api.Late, api.Errno) {
	if len(b.held) >= b.depth {
		return api.Late{}, api.ErrFull
	}
	b.held = append(b.held, s)
	return s, api.OK
}

// newest is the newest store to the address of s.
func (b *buffer) newest(s api.Late) (api.Late, api.Errno) {
	for k := len(b.held) - 1; k >= 0; k-- {
		if b.held[k].Addr == s.Addr {
			return b.held[k], api.OK
		}
	}
	return api.Late{}, api.ErrEmpty
}

// release lets the oldest store go. The others move up, so that a store to come needs no new memory.
func (b *buffer) release(api.Late) (api.Late, api.Errno) {
	if len(b.held) == 0 {
		return api.Late{}, api.ErrEmpty
	}
	oldest := b.held[0]
	b.held = b.held[:copy(b.held, b.held[1:])]
	return oldest, api.OK
}
