package hostmem_test

import (
	"math"
	"slices"
	"testing"

	"understudy/api"
	"understudy/hostmem"
)

// odd are numbers that are no core, no size and no ticket, some of which look like one in their lowest bits.
func odd() []int {
	return []int{-1, -2, -8, -1 << 32, 1 << 31, 1 << 32, 1<<32 + 1, 1 << 40, 1<<62 + 1, math.MaxInt, math.MinInt, math.MinInt + 1}
}

// oddAddr are addresses at which a memory of so many words has no word; none of them is a multiple of 4 below its end.
func oddAddr(words int) []uint64 {
	end := 8 * uint64(words)
	out := []uint64{
		1, 2, 3, 5, 6, 7, end - 1, end - 2, end - 3, end - 5, end - 6, end - 7,
		end, end + 1, end + 4, end + 8, 2 * end, 1 << 16, 1<<16 + 8, 1 << 31, 1 << 32, 1<<32 + 8,
		1 << 61, 1<<61 + 1, 1 << 63, 1<<63 + 8, math.MaxUint64, math.MaxUint64 - 3, math.MaxUint64 - 7, math.MaxUint64 - 15,
	}
	return slices.DeleteFunc(out, func(a uint64) bool { return a < end && a%4 == 0 })
}

// entry is a store that was ever made; at 0: it has not reached memory.
type entry struct {
	core        int
	addr, value uint64
	at          int
}

// book is a memory as the chapter's words have it: the first words, and all stores that were ever made, the first one with the ticket 1. Everything else is looked up there.
type book struct {
	cores, depth int
	first        []uint64
	stores       []entry
}

func (b *book) right(core int) bool { return core >= 0 && core < b.cores }

func (b *book) word(addr uint64) bool { return addr%8 == 0 && addr/8 < uint64(len(b.first)) }

// held are the places of a core's stores that wait.
func (b *book) held(core int) []int {
	var out []int
	for k, s := range b.stores {
		if s.core == core && s.at == 0 {
			out = append(out, k)
		}
	}
	return out
}

func (b *book) late(k int) api.Late {
	return api.Late{Addr: b.stores[k].addr, Value: b.stores[k].value, Ticket: k + 1}
}

func (b *book) reached() int {
	n := 0
	for _, s := range b.stores {
		n = max(n, s.at)
	}
	return n
}

func (b *book) peek(addr uint64) (uint64, int, api.Errno) {
	if !b.word(addr) {
		return 0, 0, api.ErrArg
	}
	last := -1
	for k, s := range b.stores {
		if s.addr == addr && s.at > 0 && (last < 0 || s.at > b.stores[last].at) {
			last = k
		}
	}
	if last < 0 {
		return b.first[addr/8], 0, api.OK
	}
	return b.stores[last].value, last + 1, api.OK
}

func (b *book) load(core int, addr uint64) (uint64, int, api.Errno) {
	if !b.right(core) || !b.word(addr) {
		return 0, 0, api.ErrArg
	}
	own := b.held(core)
	slices.Reverse(own)
	for _, k := range own {
		if b.stores[k].addr == addr {
			return b.stores[k].value, k + 1, api.OK
		}
	}
	return b.peek(addr)
}

func (b *book) fetch(addr uint64) (uint32, api.Errno) {
	v, _, e := b.peek(addr - addr%8)
	switch {
	case addr%4 != 0 || e != api.OK:
		return 0, api.ErrArg
	case addr%8 == 0:
		return uint32(v % (1 << 32)), api.OK
	}
	return uint32(v / (1 << 32)), api.OK
}

func (b *book) set(addr, value uint64) api.Errno {
	switch {
	case !b.word(addr):
		return api.ErrArg
	case len(b.stores) > 0:
		return api.ErrRun
	}
	b.first[addr/8] = value
	return api.OK
}

func (b *book) store(core int, addr, value uint64) (int, api.Errno) {
	switch {
	case !b.right(core) || !b.word(addr):
		return 0, api.ErrArg
	case len(b.held(core)) == b.depth:
		return 0, api.ErrFull
	}
	b.stores = append(b.stores, entry{core, addr, value, 0})
	return len(b.stores), api.OK
}

func (b *book) drain(core int) (api.Late, api.Errno) {
	own := b.held(core)
	switch {
	case !b.right(core):
		return api.Late{}, api.ErrArg
	case len(own) == 0:
		return api.Late{}, api.ErrEmpty
	}
	b.stores[own[0]].at = b.reached() + 1
	return b.late(own[0]), api.OK
}

func (b *book) flush(core int) ([]api.Late, api.Errno) {
	if !b.right(core) {
		return nil, api.ErrArg
	}
	var out []api.Late
	for range b.held(core) {
		s, _ := b.drain(core)
		out = append(out, s)
	}
	return out, api.OK
}

func (b *book) put(core int, addr, value uint64) (int, []api.Late, api.Errno) {
	if !b.right(core) || !b.word(addr) {
		return 0, nil, api.ErrArg
	}
	out, _ := b.flush(core)
	b.stores = append(b.stores, entry{core, addr, value, b.reached() + 1})
	return len(b.stores), out, api.OK
}

// all is everything that may be asked of a memory.
type all struct {
	words, cores, depth, tickets int
	loads, peeks                 [][2]uint64 // values and tickets
	fetches                      []uint32
	held                         [][]api.Late
	stamps, order                []int
}

func (a all) same(b all) bool {
	return a.words == b.words && a.cores == b.cores && a.depth == b.depth && a.tickets == b.tickets &&
		slices.Equal(a.loads, b.loads) && slices.Equal(a.peeks, b.peeks) && slices.Equal(a.fetches, b.fetches) &&
		slices.EqualFunc(a.held, b.held, slices.Equal) && slices.Equal(a.stamps, b.stamps) && slices.Equal(a.order, b.order)
}

// asked asks a memory for all of it; no question may answer an error.
func asked(t *testing.T, m *hostmem.Mem) all {
	t.Helper()
	a := all{words: m.Words(), cores: m.Cores(), depth: m.Depth(), tickets: m.Tickets(), order: m.Order()}
	for w := range uint64(m.Words()) {
		v, k, e := m.Peek(8 * w)
		a.peeks = append(a.peeks, [2]uint64{v, uint64(k)})
		lo, e1 := m.Fetch(8 * w)
		hi, e2 := m.Fetch(8*w + 4)
		a.fetches = append(a.fetches, lo, hi)
		if e != api.OK || e1 != api.OK || e2 != api.OK {
			t.Fatal("asked:", w, e, e1, e2)
		}
		for core := range m.Cores() {
			v, k, e := m.Load(core, 8*w)
			a.loads = append(a.loads, [2]uint64{v, uint64(k)})
			if e != api.OK {
				t.Fatal("asked:", core, w, e)
			}
		}
	}
	for core := range m.Cores() {
		a.held = append(a.held, m.Held(core))
	}
	for ticket := range m.Tickets() + 2 {
		a.stamps = append(a.stamps, m.Stamp(ticket))
	}
	return a
}

// told is the same of a book.
func (b *book) told() all {
	a := all{words: len(b.first), cores: b.cores, depth: b.depth, tickets: len(b.stores), order: make([]int, b.reached())}
	for w := range uint64(len(b.first)) {
		v, k, _ := b.peek(8 * w)
		a.peeks = append(a.peeks, [2]uint64{v, uint64(k)})
		a.fetches = append(a.fetches, uint32(v), uint32(v>>32))
		for core := range b.cores {
			v, k, _ := b.load(core, 8*w)
			a.loads = append(a.loads, [2]uint64{v, uint64(k)})
		}
	}
	for core := range b.cores {
		var h []api.Late
		for _, k := range b.held(core) {
			h = append(h, b.late(k))
		}
		a.held = append(a.held, h)
	}
	a.stamps = append(a.stamps, 0)
	for k, s := range b.stores {
		a.stamps = append(a.stamps, s.at)
		if s.at > 0 {
			a.order[s.at-1] = k + 1
		}
	}
	a.stamps = append(a.stamps, 0)
	return a
}
