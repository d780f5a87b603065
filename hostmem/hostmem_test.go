package hostmem_test

import (
	"math"
	"math/rand"
	"slices"
	"testing"

	"understudy/api"
	"understudy/hostmem"
)

func made(t *testing.T, words, cores, depth int) *hostmem.Mem {
	t.Helper()
	m, e := hostmem.New(words, cores, depth)
	if m == nil || e != api.OK {
		t.Fatal("New", words, cores, depth, e)
	}
	return m
}

// P8.1: a new memory is of that many words, all 0, of that many cores, with empty buffers, and nothing has been stored.
func TestNew(t *testing.T) {
	for _, c := range [][3]int{{1, 1, 1}, {2, 3, 4}, {5, 8, 32}, {8191, 7, 31}, {8192, 8, 32}, {8192, 1, 1}, {1, 8, 1}, {1, 1, 32}} {
		m := made(t, c[0], c[1], c[2])
		b := &book{cores: c[1], depth: c[2], first: make([]uint64, c[0])}
		if a := asked(t, m); !a.same(b.told()) || a.words != c[0] || a.cores != c[1] || a.depth != c[2] {
			t.Error(c, a.words, a.cores, a.depth, a.tickets, a.order)
		}
	}
}

// P8.1: sizes that may not be, each alone and together with others: ErrArg, and no memory.
func TestNewWrong(t *testing.T) {
	for _, n := range append(odd(), 0, 8193, 8194, 1<<16, -8192) {
		for _, c := range [][3]int{{n, 1, 1}, {n, 8, 32}, {n, n, 1}, {n, 1, n}, {1, n, n}, {n, n, n}} {
			if m, e := hostmem.New(c[0], c[1], c[2]); m != nil || e != api.ErrArg {
				t.Error(c, e)
			}
		}
	}
	for _, n := range append(odd(), 0, 9, 10, 16, 256, 8192) {
		if m, e := hostmem.New(8192, n, 32); m != nil || e != api.ErrArg {
			t.Error("cores", n, e)
		}
	}
	for _, n := range append(odd(), 0, 33, 34, 64, 8192) {
		if m, e := hostmem.New(8192, 8, n); m != nil || e != api.ErrArg {
			t.Error("depth", n, e)
		}
	}
}

// P8.1: a buffer holds just Depth stores, whatever they are and whatever the others hold, and holds as many again when it was emptied.
func TestDepth(t *testing.T) {
	for depth := 1; depth <= api.MaxDepth; depth++ {
		m := made(t, 2, 3, depth)
		ticket := 0
		for round := range 3 {
			for core := range 3 {
				for k := range depth {
					ticket++
					if got, e := m.Store(core, uint64(k%2)*8, uint64(k)); got != ticket || e != api.OK {
						t.Fatal(depth, round, core, k, got, e)
					}
				}
				if got, e := m.Store(core, 0, 1); got != 0 || e != api.ErrFull || m.Tickets() != ticket || len(m.Held(core)) != depth {
					t.Fatal(depth, round, core, got, e)
				}
			}
			for core := range 3 {
				if l, e := m.Flush(core); len(l) != depth || e != api.OK {
					t.Fatal(depth, round, core, l, e)
				}
			}
		}
	}
}

// The chapter's table of examples, line by line.
func TestExamples(t *testing.T) {
	m := made(t, 3, 2, 2)
	if k, e := m.Store(0, 8, 5); k != 1 || e != api.OK {
		t.Error("Store", k, e)
	}
	if v, k, e := m.Load(0, 8); v != 5 || k != 1 || e != api.OK {
		t.Error("Load(0, 8)", v, k, e)
	}
	if v, k, e := m.Load(1, 8); v != 0 || k != 0 || e != api.OK {
		t.Error("Load(1, 8)", v, k, e)
	}
	if v, k, e := m.Peek(8); v != 0 || k != 0 || e != api.OK {
		t.Error("Peek(8)", v, k, e)
	}
	if k, e := m.Store(0, 8, 6); k != 2 || e != api.OK {
		t.Error("Store", k, e)
	}
	if k, e := m.Store(0, 0, 7); k != 0 || e != api.ErrFull {
		t.Error("Store", k, e)
	}
	if s, e := m.Drain(0); s != (api.Late{Addr: 8, Value: 5, Ticket: 1}) || e != api.OK {
		t.Error("Drain", s, e)
	}
	if v, k, e := m.Load(1, 8); v != 5 || k != 1 || e != api.OK || m.Stamp(1) != 1 || m.Stamp(2) != 0 {
		t.Error("Load(1, 8)", v, k, e, m.Stamp(1), m.Stamp(2))
	}
	k, l, e := m.Put(0, 16, 9)
	if k != 3 || !slices.Equal(l, []api.Late{{Addr: 8, Value: 6, Ticket: 2}}) || e != api.OK || !slices.Equal(m.Order(), []int{1, 2, 3}) {
		t.Error("Put", k, l, e, m.Order())
	}
	e1 := m.Set(0, 1)
	_, e2 := m.Drain(0)
	_, _, e3 := m.Load(0, 4)
	_, _, e4 := m.Load(2, 0)
	if e1 != api.ErrRun || e2 != api.ErrEmpty || e3 != api.ErrArg || e4 != api.ErrArg {
		t.Error(e1, e2, e3, e4)
	}
	n := made(t, 2, 2, 2)
	n.Set(8, 0x1122334455667788)
	if w, e := n.Fetch(12); w != 0x11223344 || e != api.OK {
		t.Errorf("Fetch(12): %x %v", w, e)
	}
}

// busy is a memory of four words and three cores, with stores in two buffers, one of them full, and some in memory.
func busy(t *testing.T) *hostmem.Mem {
	m := made(t, 4, 3, 2)
	for w := range uint64(4) {
		m.Set(8*w, 0x1111111122222222*(w+1))
	}
	m.Store(0, 0, 10)
	m.Store(1, 8, 20)
	m.Drain(1)
	m.Store(0, 8, 30)
	m.Store(1, 16, 40)
	return m
}

// fresh is one in which nothing has been stored.
func fresh(t *testing.T) *hostmem.Mem {
	m := made(t, 4, 3, 2)
	m.Set(8, 77)
	return m
}

// P8.2: no such core: ErrArg ahead of every other error, every other result 0, and nothing has changed; Held is none, a Stamp 0.
func TestNoCore(t *testing.T) {
	for _, m := range []*hostmem.Mem{busy(t), fresh(t)} {
		was := asked(t, m)
		for _, core := range append(odd(), 3, 4, 7, 8, 9) {
			for _, addr := range []uint64{0, 8, 24, 4, 32} {
				if v, k, e := m.Load(core, addr); v != 0 || k != 0 || e != api.ErrArg {
					t.Error("Load", core, addr, v, k, e)
				}
				if k, e := m.Store(core, addr, 1); k != 0 || e != api.ErrArg {
					t.Error("Store", core, addr, k, e)
				}
				if k, l, e := m.Put(core, addr, 1); k != 0 || len(l) != 0 || e != api.ErrArg {
					t.Error("Put", core, addr, k, l, e)
				}
			}
			if s, e := m.Drain(core); s != (api.Late{}) || e != api.ErrArg {
				t.Error("Drain", core, s, e)
			}
			if l, e := m.Flush(core); len(l) != 0 || e != api.ErrArg {
				t.Error("Flush", core, l, e)
			}
			if l := m.Held(core); len(l) != 0 {
				t.Error("Held", core, l)
			}
		}
		if !asked(t, m).same(was) {
			t.Error("changed")
		}
	}
}

// P8.2: no word at an address: ErrArg ahead of ErrRun and ErrFull, every other result 0, and nothing has changed, no buffer emptied.
func TestNoWord(t *testing.T) {
	for _, m := range []*hostmem.Mem{busy(t), fresh(t)} {
		was := asked(t, m)
		for _, addr := range append(oddAddr(4), 4, 12, 28) {
			if e := m.Set(addr, 1); e != api.ErrArg {
				t.Errorf("Set %x: %v", addr, e)
			}
			if v, k, e := m.Peek(addr); v != 0 || k != 0 || e != api.ErrArg {
				t.Errorf("Peek %x: %v %v %v", addr, v, k, e)
			}
			for core := range 3 {
				if v, k, e := m.Load(core, addr); v != 0 || k != 0 || e != api.ErrArg {
					t.Errorf("Load %v %x: %v %v %v", core, addr, v, k, e)
				}
				if k, e := m.Store(core, addr, 1); k != 0 || e != api.ErrArg {
					t.Errorf("Store %v %x: %v %v", core, addr, k, e)
				}
				if k, l, e := m.Put(core, addr, 1); k != 0 || len(l) != 0 || e != api.ErrArg {
					t.Errorf("Put %v %x: %v %v %v", core, addr, k, l, e)
				}
			}
		}
		for _, addr := range oddAddr(4) {
			if w, e := m.Fetch(addr); w != 0 || e != api.ErrArg {
				t.Errorf("Fetch %x: %x %v", addr, w, e)
			}
		}
		if !asked(t, m).same(was) {
			t.Error("changed")
		}
	}
}

// P8.2: the last word of memory, of its largest size too, is there.
func TestLastWord(t *testing.T) {
	for _, words := range []int{1, 2, 8191, 8192} {
		m := made(t, words, 8, 1)
		last := 8 * uint64(words-1)
		if e := m.Set(last, math.MaxUint64-1); e != api.OK {
			t.Error(words, e)
		}
		lo, e1 := m.Fetch(last)
		hi, e2 := m.Fetch(last + 4)
		if lo != 0xFFFFFFFE || hi != 0xFFFFFFFF || e1 != api.OK || e2 != api.OK {
			t.Error(words, lo, hi, e1, e2)
		}
		k, e := m.Store(7, last, 3)
		v, own, e3 := m.Load(7, last)
		if k != 1 || e != api.OK || v != 3 || own != 1 || e3 != api.OK {
			t.Error(words, k, e, v, own, e3)
		}
		if _, _, e := m.Load(7, last+8); e != api.ErrArg {
			t.Error(words, e)
		}
	}
}

// P8.2: Set lays words down, again too, with the ticket 0, till a ticket has been given, be its store in a buffer, or in memory at once.
func TestSet(t *testing.T) {
	m := fresh(t)
	for k, v := range []uint64{1, math.MaxUint64, 0, 1 << 63} {
		if e := m.Set(16, v); e != api.OK {
			t.Error(k, e)
		}
		for core := range 3 {
			if got, ticket, e := m.Load(core, 16); got != v || ticket != 0 || e != api.OK {
				t.Error(k, core, got, ticket, e)
			}
		}
	}
	m.Flush(1)
	m.Drain(1)
	if e := m.Set(24, 9); e != api.OK || m.Tickets() != 0 {
		t.Error("no ticket has been given", e)
	}
	ways := []func(m *hostmem.Mem){
		func(m *hostmem.Mem) { m.Store(2, 0, 1) },
		func(m *hostmem.Mem) { m.Store(2, 0, 1); m.Flush(2) },
		func(m *hostmem.Mem) { m.Put(0, 0, 1) },
	}
	for k, do := range ways {
		m := fresh(t)
		do(m)
		was := asked(t, m)
		for w := range uint64(4) {
			if e := m.Set(8*w, 5); e != api.ErrRun {
				t.Error(k, w, e)
			}
		}
		if !asked(t, m).same(was) {
			t.Error(k, "changed")
		}
	}
}

// P8.2: of several stores of a core to an address that wait it reads the newest; one to another address does not count, nor does another core's.
func TestLoadNewest(t *testing.T) {
	m := made(t, 3, 2, 32)
	for k := range 30 {
		addr := uint64(k % 3 * 8)
		m.Store(0, addr, uint64(100+k))
		if v, ticket, e := m.Load(0, addr); v != uint64(100+k) || ticket != k+1 || e != api.OK {
			t.Error(k, v, ticket, e)
		}
		if v, ticket, e := m.Load(1, addr); v != 0 || ticket != 0 || e != api.OK {
			t.Error(k, v, ticket, e)
		}
	}
	for w := range 3 {
		if v, ticket, _ := m.Load(0, uint64(w*8)); v != uint64(127+w) || ticket != 28+w {
			t.Error(w, v, ticket)
		}
	}
}

// P8.2, P8.3: a full buffer takes no store and an empty one gives none; neither changes anything, nor uses up a ticket or a stamp.
func TestFullAndEmpty(t *testing.T) {
	m := busy(t)
	was := asked(t, m)
	if k, e := m.Store(0, 24, 1); k != 0 || e != api.ErrFull {
		t.Error(k, e)
	}
	if s, e := m.Drain(2); s != (api.Late{}) || e != api.ErrEmpty {
		t.Error(s, e)
	}
	if l, e := m.Flush(2); len(l) != 0 || e != api.OK {
		t.Error("an empty buffer is flushed already:", l, e)
	}
	if !asked(t, m).same(was) {
		t.Error("changed")
	}
	if k, e := m.Store(2, 24, 1); k != was.tickets+1 || e != api.OK {
		t.Error(k, e)
	}
	if _, e := m.Drain(2); e != api.OK || m.Stamp(was.tickets+1) != len(was.order)+1 {
		t.Error(e, m.Stamp(was.tickets+1))
	}
}

// P8.3: what a buffer gives comes oldest first; Flush tells it all; Put goes behind it, past a full buffer too, and leaves other cores' stores where they are.
func TestDrainFlushPut(t *testing.T) {
	m := busy(t)
	k, l, e := m.Put(0, 24, 50)
	if k != 5 || e != api.OK || !slices.Equal(l, []api.Late{{Addr: 0, Value: 10, Ticket: 1}, {Addr: 8, Value: 30, Ticket: 3}}) {
		t.Error("Put", k, l, e)
	}
	if !slices.Equal(m.Order(), []int{2, 1, 3, 5}) || m.Stamp(2) != 1 || m.Stamp(1) != 2 || m.Stamp(3) != 3 || m.Stamp(4) != 0 || m.Stamp(5) != 4 {
		t.Error(m.Order())
	}
	if len(m.Held(0)) != 0 || !slices.Equal(m.Held(1), []api.Late{{Addr: 16, Value: 40, Ticket: 4}}) {
		t.Error(m.Held(0), m.Held(1))
	}
	for core := range 3 {
		if v, ticket, e := m.Load(core, 24); v != 50 || ticket != 5 || e != api.OK {
			t.Error(core, v, ticket, e)
		}
	}
	if k, l, e := m.Put(2, 8, 60); k != 6 || len(l) != 0 || e != api.OK || m.Stamp(6) != 5 {
		t.Error("Put", k, l, e)
	}
	if s, e := m.Drain(1); s != (api.Late{Addr: 16, Value: 40, Ticket: 4}) || e != api.OK || m.Stamp(4) != 6 {
		t.Error("Drain", s, e)
	}
	if v, ticket, _ := m.Peek(8); v != 60 || ticket != 6 {
		t.Error("Peek", v, ticket)
	}
}

// P8.4: Fetch reads the halves of memory's words alone: what waits in a buffer is not to be fetched till it has reached memory.
func TestFetch(t *testing.T) {
	m := made(t, 2, 1, 2)
	m.Set(0, 0x8000000180000002)
	m.Set(8, 0x00000000FFFFFFFF)
	m.Store(0, 8, 0x1122334455667788)
	want := []uint32{0x80000002, 0x80000001, 0xFFFFFFFF, 0}
	for round := range 2 {
		for k, w := range want {
			if got, e := m.Fetch(uint64(4 * k)); got != w || e != api.OK {
				t.Errorf("round %v, %v: %x %v", round, 4*k, got, e)
			}
		}
		m.Flush(0)
		want[2], want[3] = 0x55667788, 0x11223344
	}
}

// P8.4: numbers that are no ticket have no stamp.
func TestStampWrong(t *testing.T) {
	m := busy(t)
	for core := range 3 {
		m.Flush(core)
	}
	for _, ticket := range append(odd(), 0, 5, 6) {
		if s := m.Stamp(ticket); s != 0 {
			t.Error(ticket, s)
		}
	}
	if m.Stamp(4) == 0 || m.Tickets() != 4 {
		t.Error(m.Stamp(4), m.Tickets())
	}
}

// P3: lists that were answered are new memory: what is written into them, spare room too, changes nothing, and later stores do not change them.
func TestListsAreNew(t *testing.T) {
	spoil := func(l []api.Late) {
		for k := range l[:cap(l)] {
			l[:cap(l)][k] = api.Late{Addr: 999, Value: 999, Ticket: 999}
		}
	}
	m := busy(t)
	was := asked(t, m)
	for core := range 3 {
		spoil(m.Held(core))
	}
	for _, o := range [][]int{m.Order(), m.Order()} {
		for k := range o[:cap(o)] {
			o[:cap(o)][k] = 999
		}
	}
	if !asked(t, m).same(was) {
		t.Error("Held, Order: changed")
	}
	held, order := m.Held(0), m.Order()
	keptHeld, keptOrder := slices.Clone(held), slices.Clone(order)
	flushed, _ := m.Flush(0)
	_, put, _ := m.Put(1, 0, 1)
	keptFlushed, keptPut := slices.Clone(flushed), slices.Clone(put)
	m.Store(0, 24, 5)
	m.Store(1, 24, 6)
	if !slices.Equal(held, keptHeld) || !slices.Equal(order, keptOrder) || !slices.Equal(flushed, keptFlushed) || !slices.Equal(put, keptPut) {
		t.Error("a list that was answered has changed")
	}
	now := asked(t, m)
	for _, l := range [][]api.Late{held, flushed, put} {
		spoil(l)
	}
	if !asked(t, m).same(now) {
		t.Error("Flush, Put: changed")
	}
}

// P4: two memories share nothing.
func TestTwoMemories(t *testing.T) {
	a, b := busy(t), busy(t)
	was := asked(t, b)
	a.Store(2, 0, 9)
	a.Put(0, 16, 9)
	a.Flush(1)
	if !asked(t, b).same(was) {
		t.Error("changed")
	}
}

// step does one thing, drawn by r, to a memory and to a book; some of it is wrong.
func step(t *testing.T, r *rand.Rand, m *hostmem.Mem, b *book) {
	t.Helper()
	core, value := r.Intn(b.cores+1), r.Uint64()
	addr := 8 * uint64(r.Intn(len(b.first)))
	if r.Intn(16) == 0 {
		wrong := oddAddr(len(b.first))
		addr = wrong[r.Intn(len(wrong))]
	}
	if core == b.cores && r.Intn(4) > 0 {
		core = 0
	}
	switch r.Intn(10) {
	case 0, 1, 2, 3:
		k1, e1 := m.Store(core, addr, value)
		if k2, e2 := b.store(core, addr, value); k1 != k2 || e1 != e2 {
			t.Fatal("Store", core, addr, k1, e1, k2, e2)
		}
	case 4, 5, 6:
		s1, e1 := m.Drain(core)
		if s2, e2 := b.drain(core); s1 != s2 || e1 != e2 {
			t.Fatal("Drain", core, s1, e1, s2, e2)
		}
	case 7:
		l1, e1 := m.Flush(core)
		if l2, e2 := b.flush(core); !slices.Equal(l1, l2) || e1 != e2 {
			t.Fatal("Flush", core, l1, e1, l2, e2)
		}
	case 8:
		k1, l1, e1 := m.Put(core, addr, value)
		if k2, l2, e2 := b.put(core, addr, value); k1 != k2 || !slices.Equal(l1, l2) || e1 != e2 {
			t.Fatal("Put", core, addr, k1, l1, e1, k2, l2, e2)
		}
	case 9:
		e1 := m.Set(addr, value)
		if e2 := b.set(addr, value); e1 != e2 {
			t.Fatal("Set", addr, e1, e2)
		}
		w1, e1 := m.Fetch(addr)
		if w2, e2 := b.fetch(addr); w1 != w2 || e1 != e2 {
			t.Fatal("Fetch", addr, w1, e1, w2, e2)
		}
	}
}

// P8.2, P8.3, P8.4: whatever is done, in whatever order, a memory answers as the book in which all stores ever made are written down.
func TestBook(t *testing.T) {
	r := rand.New(rand.NewSource(8))
	for range 150 {
		words, cores, depth := 1+r.Intn(5), 1+r.Intn(8), 1+r.Intn(6)
		if r.Intn(8) == 0 {
			depth = api.MaxDepth
		}
		m := made(t, words, cores, depth)
		b := &book{cores: cores, depth: depth, first: make([]uint64, words)}
		for range 120 {
			step(t, r, m, b)
			if !asked(t, m).same(b.told()) {
				t.Fatal(words, cores, depth, m.Order(), b.stores)
			}
		}
	}
}

// P8.5: all scripts of six steps of two cores, which store to one of two words, drain, or flush.
func TestFollows(t *testing.T) {
	const ways, steps = 8, 6
	total := 1
	for range steps {
		total *= ways
	}
	for script := range total {
		m := made(t, 2, 2, 4)
		own := [2][2]int{} // by core and word: the core's last store there that no other core's has come behind
		from := map[int]int{}
		for k, left := 0, script; k < steps; k, left = k+1, left/ways {
			core, word := left%2, left/2%2
			var reached []api.Late
			switch left / 4 % 2 {
			case 0:
				ticket, _ := m.Store(core, uint64(8*word), uint64(100+k))
				if ticket > 0 {
					own[core][word], from[ticket] = ticket, core
				}
			case 1:
				if word == 1 {
					reached, _ = m.Flush(core)
				} else if s, e := m.Drain(core); e == api.OK {
					reached = []api.Late{s}
				}
			}
			for _, s := range reached {
				other := 1 - core
				waits := slices.ContainsFunc(m.Held(other), func(h api.Late) bool { return h.Addr == s.Addr })
				if !waits {
					own[other][s.Addr/8] = s.Ticket
				}
			}
			follows(t, script, m, own, from)
		}
		m.Flush(0)
		m.Flush(1)
		alike(t, script, m)
	}
}

func follows(t *testing.T, script int, m *hostmem.Mem, own [2][2]int, from map[int]int) {
	t.Helper()
	for core := range 2 {
		for word := range 2 {
			if _, ticket, _ := m.Load(core, uint64(8*word)); ticket != own[core][word] {
				t.Fatal("reads", script, core, word, ticket, own)
			}
		}
	}
	var seen [2]int
	for _, ticket := range m.Order() {
		if ticket < seen[from[ticket]] {
			t.Fatal("order", script, m.Order())
		}
		seen[from[ticket]] = ticket
	}
}

func alike(t *testing.T, script int, m *hostmem.Mem) {
	t.Helper()
	for word := range uint64(2) {
		v0, k0, _ := m.Load(0, 8*word)
		v1, k1, _ := m.Load(1, 8*word)
		if v, k, _ := m.Peek(8 * word); v0 != v || v1 != v || k0 != k || k1 != k {
			t.Fatal("alike", script, word, v0, v1, v)
		}
	}
	if len(m.Order()) != m.Tickets() {
		t.Fatal("all have reached memory", script, m.Order(), m.Tickets())
	}
}

// P1, P8.3: a buffer through which many stores go keeps only those that wait; the tickets and stamps go on.
func TestLongRun(t *testing.T) {
	const stores = 100000
	m := made(t, 4, 1, 3)
	m.Store(0, 0, 1)
	m.Store(0, 8, 2)
	for k := range stores {
		if ticket, e := m.Store(0, uint64(k%4*8), uint64(k)); ticket != k+3 || e != api.OK {
			t.Fatal(k, ticket, e)
		}
		if s, e := m.Drain(0); s.Ticket != k+1 || e != api.OK || m.Stamp(k+1) != k+1 {
			t.Fatal(k, s, e)
		}
	}
	order := m.Order()
	if len(order) != stores || order[0] != 1 || order[stores-1] != stores || len(m.Held(0)) != 2 {
		t.Error(len(order), m.Held(0))
	}
}
