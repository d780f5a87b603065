package fetch_test

import (
	"math"
	"math/rand"
	"slices"
	"testing"

	"understudy/api"
	"understudy/fetch"
)

func write(addr uint64, word uint32) api.Note {
	return api.Note{Kind: api.NWrite, Addr: addr, Word: word}
}

func ic(addr uint64) api.Note { return api.Note{Kind: api.NIc, Addr: addr} }

func icAll() api.Note { return api.Note{Kind: api.NIcAll} }

func isb(core int) api.Note { return api.Note{Kind: api.NIsb, Core: core} }

func ran(core int, addr uint64, word uint32) api.Note {
	return api.Note{Kind: api.NFetch, Core: core, Addr: addr, Word: word}
}

// odd are numbers that are no core and no kind, some of which look like one in their lowest bits.
func odd() []int {
	return []int{-1, -2, -7, -8, 8, 9, 16, 64, 1 << 8, 1<<8 + 1, 1<<31 + 2, 1 << 32, 1<<32 + 1, 1<<32 + 4, 1<<62 + 3, -1 << 32, -1<<32 + 1, math.MaxInt, math.MinInt, math.MinInt + 1}
}

// unaligned are addresses at which no word stands.
func unaligned() []uint64 {
	return []uint64{1, 2, 3, 5, 6, 7, 62, 63, 65, 66, 67, 127, 1<<32 + 1, 1<<32 + 2, 1<<63 + 3, math.MaxUint64, math.MaxUint64 - 1, math.MaxUint64 - 2}
}

// model is a trace in which all is looked for as the chapter's words have it.
type model []api.Note

// wrong tells whether a note is not as its kind wants it.
func (m model) wrong(k int) bool {
	n := m[k]
	hasCore := n.Kind == api.NIsb || n.Kind == api.NFetch
	hasAddr := n.Kind == api.NWrite || n.Kind == api.NIc || n.Kind == api.NFetch
	hasWord := n.Kind == api.NWrite || n.Kind == api.NFetch
	switch {
	case n.Kind < 1 || n.Kind > 5:
		return true
	case hasCore && (n.Core < 0 || n.Core > 7):
		return true
	case hasWord && n.Addr%4 != 0:
		return true
	}
	return !hasCore && n.Core != 0 || !hasAddr && n.Addr != 0 || !hasWord && n.Word != 0
}

func (m model) right() bool {
	for k := range m {
		if m.wrong(k) {
			return false
		}
	}
	return true
}

// loses tells whether the note tells the caches to lose the line of an address.
func (m model) loses(k int, addr uint64) bool {
	return m[k].Kind == api.NIcAll || m[k].Kind == api.NIc && m[k].Addr/64 == addr/64
}

// toldBehind tells whether behind a place there is one that tells to lose the line, and behind that an NIsb of the core.
func (m model) toldBehind(place, core int, addr uint64) bool {
	for k := place + 1; k < len(m); k++ {
		for j := k + 1; j < len(m); j++ {
			if m.loses(k, addr) && m[j].Kind == api.NIsb && m[j].Core == core {
				return true
			}
		}
	}
	return false
}

// may are the words of the versions that are not lost, each once.
func (m model) may(core int, addr uint64, first uint32) []uint32 {
	words, places := []uint32{first}, []int{-1}
	for k, n := range m {
		if n.Kind == api.NWrite && n.Addr == addr {
			words, places = append(words, n.Word), append(places, k)
		}
	}
	var out []uint32
	for v, word := range words {
		lost := false
		for _, later := range places[v+1:] {
			lost = lost || m.toldBehind(later, core, addr)
		}
		if !lost && !slices.Contains(out, word) {
			out = append(out, word)
		}
	}
	return out
}

func (m model) check(first func(uint64) uint32) int {
	for k, n := range m {
		if n.Kind == api.NFetch && !slices.Contains(m[:k].may(n.Core, n.Addr, first(n.Addr)), n.Word) {
			return k
		}
	}
	return -1
}

// firstOf is what stands at each address ahead of a trace: another word at each, and one of those that are written.
func firstOf(addr uint64) uint32 { return uint32(7 + addr/4%3) }

// same holds May and Check of a trace against the model.
func same(t *testing.T, trace []api.Note, core int, addr uint64) {
	t.Helper()
	m := model(trace)
	if !m.right() {
		refused(t, trace)
		return
	}
	want := m.may(core, addr, firstOf(addr))
	if l, e := fetch.May(trace, core, addr, firstOf(addr)); e != api.OK || !slices.Equal(l, want) {
		t.Fatal("May", trace, core, addr, l, e, want)
	}
	place := m.check(firstOf)
	if n, e := fetch.Check(trace, firstOf); e != api.OK || n != place {
		t.Fatal("Check", trace, n, e, place)
	}
}

// refused holds that neither call takes a trace, and that beside the error there is nothing.
func refused(t *testing.T, trace []api.Note) {
	t.Helper()
	if l, e := fetch.May(trace, 1, 64, 7); len(l) != 0 || e != api.ErrArg {
		t.Fatal("May", trace, l, e)
	}
	if n, e := fetch.Check(trace, firstOf); n != 0 || e != api.ErrArg {
		t.Fatal("Check", trace, n, e)
	}
}

// tells holds which words a core may fetch.
func tells(t *testing.T, trace []api.Note, core int, addr uint64, first uint32, want ...uint32) {
	t.Helper()
	if l, e := fetch.May(trace, core, addr, first); e != api.OK || !slices.Equal(l, want) {
		t.Error(trace, core, addr, first, l, e, want)
	}
}

// finds holds which place Check tells.
func finds(t *testing.T, trace []api.Note, first func(uint64) uint32, want int) {
	t.Helper()
	if n, e := fetch.Check(trace, first); e != api.OK || n != want {
		t.Error(trace, n, e, want)
	}
}

func pick[T any](r *rand.Rand, of ...T) T { return of[r.Intn(len(of))] }

// chance is a note by chance, of few cores, words and addresses, which stand in two lines and at the far end.
func chance(r *rand.Rand) api.Note {
	addr := pick[uint64](r, 64, 64, 64, 68, 124, 128, math.MaxUint64-3)
	switch r.Intn(9) {
	case 0, 1, 2:
		return write(addr, uint32(6+r.Intn(4)))
	case 3:
		return ic(addr + uint64(r.Intn(4)))
	case 4:
		return pick(r, ic(64), ic(127), icAll())
	case 5, 6:
		return isb(pick(r, 0, 1, 1, 7))
	}
	return ran(pick(r, 0, 1, 1, 7), addr, uint32(6+r.Intn(4)))
}
