package fetch_test

import (
	"math/rand"
	"slices"
	"testing"

	"understudy/api"
	"understudy/fetch"
)

// may are the words that May tells of a trace that is right.
func may(t *testing.T, trace []api.Note, core int, addr uint64) []uint32 {
	t.Helper()
	l, e := fetch.May(trace, core, addr, firstOf(addr))
	if e != api.OK || len(l) == 0 {
		t.Fatal(trace, l, e)
	}
	return l
}

// story is a trace of so many notes by chance.
func story(r *rand.Rand, many int) []api.Note {
	var out []api.Note
	for range many {
		out = append(out, chance(r))
	}
	return out
}

// without are those notes of a trace of which this does not hold.
func without(trace []api.Note, holds func(api.Note) bool) []api.Note {
	return slices.DeleteFunc(slices.Clone(trace), holds)
}

// writes tells of a note whether it writes to an address.
func writes(addr uint64) func(api.Note) bool {
	return func(n api.Note) bool { return n.Kind == api.NWrite && n.Addr == addr }
}

// P15.3: behind an NWrite, an NIc of its line (or an NIcAll) and an NIsb of the core that word alone, whatever stood ahead of it, and stands between and behind, till another one is written.
func TestAlone(t *testing.T) {
	r := rand.New(rand.NewSource(153))
	for range 5000 {
		addr, core, word := pick[uint64](r, 64, 68, 124), pick(r, 0, 1, 7), uint32(r.Intn(12))
		quiet := func() []api.Note { return without(story(r, r.Intn(6)), writes(addr)) }
		tell := pick(r, ic(64+uint64(r.Intn(64))), icAll())
		trace := slices.Concat(story(r, r.Intn(12)), []api.Note{write(addr, word)}, quiet(), []api.Note{tell}, quiet(), []api.Note{isb(core)}, quiet())
		if l := may(t, trace, core, addr); !slices.Equal(l, []uint32{word}) {
			t.Fatal(trace, core, addr, l)
		}
		trace = append(trace, write(addr, word+1))
		if l := may(t, trace, core, addr); !slices.Equal(l, []uint32{word, word + 1}) {
			t.Fatal(trace, core, addr, l)
		}
	}
}

// P15.3: without an NIc of its line, or an NIcAll, all versions may be.
func TestAllVersions(t *testing.T) {
	r := rand.New(rand.NewSource(154))
	for range 5000 {
		addr, core := pick[uint64](r, 64, 68, 124), pick(r, 0, 1, 7)
		trace := without(story(r, r.Intn(30)), func(n api.Note) bool {
			return n.Kind == api.NIcAll || n.Kind == api.NIc && n.Addr/64 == addr/64
		})
		want := []uint32{firstOf(addr)}
		for _, n := range trace {
			if writes(addr)(n) && !slices.Contains(want, n.Word) {
				want = append(want, n.Word)
			}
		}
		if l := may(t, trace, core, addr); !slices.Equal(l, want) {
			t.Fatal(trace, core, addr, l, want)
		}
	}
}

// P15.3: a longer trace, without further NWrites of the address, tells no word that the shorter one did not; it is never none (as may asks each time).
func TestNeverMore(t *testing.T) {
	r := rand.New(rand.NewSource(155))
	fewer := 0
	for range 3000 {
		addr, core := pick[uint64](r, 64, 68, 124), pick(r, 0, 1, 7)
		trace := story(r, r.Intn(15))
		last := may(t, trace, core, addr)
		for _, n := range without(story(r, 15), writes(addr)) {
			trace = append(trace, n)
			l := may(t, trace, core, addr)
			for _, word := range l {
				if !slices.Contains(last, word) {
					t.Fatal(trace, core, addr, last, l)
				}
			}
			if len(l) < len(last) {
				fewer++
			}
			last = l
		}
	}
	if fewer < 300 {
		t.Error("too few", fewer)
	}
}

// P15.2: Check finds just the first fetch whose word May does not tell of what stands ahead of it.
func TestCheckIsMay(t *testing.T) {
	r := rand.New(rand.NewSource(156))
	for range 3000 {
		trace := story(r, r.Intn(60))
		want := -1
		for k, n := range trace {
			if n.Kind == api.NFetch && !slices.Contains(may(t, trace[:k], n.Core, n.Addr), n.Word) {
				want = k
				break
			}
		}
		finds(t, trace, firstOf, want)
		// With words that may be, it goes on to the end.
		for k, n := range trace {
			if n.Kind == api.NFetch {
				trace[k].Word = pick(r, may(t, trace[:k], n.Core, n.Addr)...)
			}
		}
		finds(t, trace, firstOf, -1)
	}
}
