package fetch_test

import (
	"math"
	"math/rand"
	"slices"
	"testing"

	"understudy/api"
	"understudy/fetch"
)

// P15.1: the chapter's examples.
func TestExamples(t *testing.T) {
	tells(t, nil, 1, 64, 7, 7)
	tells(t, []api.Note{}, 1, 64, 7, 7)
	tells(t, []api.Note{write(64, 8)}, 1, 64, 7, 7, 8)
	tells(t, []api.Note{write(64, 8), ic(100), isb(0)}, 1, 64, 7, 7, 8)
	tells(t, []api.Note{write(64, 8), ic(100), isb(1)}, 1, 64, 7, 8)
	tells(t, []api.Note{write(64, 8), ic(100), isb(1), write(64, 7)}, 1, 64, 7, 8, 7)
	tells(t, []api.Note{ic(64), write(64, 8), isb(1)}, 1, 64, 7, 7, 8)
}

// P15.1: a version goes by an NWrite, what tells the line, and an NIsb, in this order and no other; between them may stand whatever does not bear on it.
func TestLostInOrder(t *testing.T) {
	for _, tell := range []api.Note{ic(64), ic(127), icAll()} {
		three := []api.Note{write(64, 8), tell, isb(1)}
		for _, order := range [][3]int{{0, 1, 2}, {0, 2, 1}, {1, 0, 2}, {1, 2, 0}, {2, 0, 1}, {2, 1, 0}} {
			trace := []api.Note{three[order[0]], three[order[1]], three[order[2]]}
			if order == [3]int{0, 1, 2} {
				tells(t, trace, 1, 64, 7, 8)
			} else {
				tells(t, trace, 1, 64, 7, 7, 8)
			}
		}
		tells(t, []api.Note{write(64, 8), tell}, 1, 64, 7, 7, 8)
		tells(t, []api.Note{write(64, 8), isb(1)}, 1, 64, 7, 7, 8)
		other := []api.Note{write(68, 3), isb(0), ic(0), ran(1, 64, 7)}
		trace := slices.Concat(other, three[:1], other, three[1:2], other, three[2:], other)
		tells(t, trace, 1, 64, 7, 8)
		tells(t, trace, 0, 64, 7, 8)
		tells(t, trace, 2, 64, 7, 7, 8)
	}
}

// P15.1: one NIsb takes note of all that was told so far, by the last NIc alone, whatever stood ahead of that.
func TestLostByTheLast(t *testing.T) {
	base := []api.Note{write(64, 1), ic(64), write(64, 2), icAll(), write(64, 3), ic(96), write(64, 4)}
	tells(t, base, 1, 64, 0, 0, 1, 2, 3, 4)
	for cut, want := range [][]uint32{{0}, {0, 1}, {1}, {1, 2}, {2}, {2, 3}, {3}, {3, 4}} {
		trace := append(slices.Clone(base[:cut]), isb(1))
		tells(t, trace, 1, 64, 0, want...)
		all := slices.Concat(trace, base[cut:])
		tells(t, all, 1, 64, 0, []uint32{0, 1, 2, 3, 4}[want[0]:]...)
	}
}

// P15.1: each core has taken note by its own NIsbs alone.
func TestCoresAlone(t *testing.T) {
	for of := range 8 {
		trace := []api.Note{write(64, 8), ic(64), isb(of)}
		for core := range 8 {
			if core == of {
				tells(t, trace, core, 64, 7, 8)
			} else {
				tells(t, trace, core, 64, 7, 7, 8)
			}
		}
	}
}

// P15.1: an NIc tells one line of 64 bytes, by any address in it; an NIcAll tells each line.
func TestLines(t *testing.T) {
	for _, addr := range []uint64{0, 4, 60, 64, 124, 128, 4096, 1<<32 + 64, 1 << 63, math.MaxUint64 - 3, math.MaxUint64 - 63} {
		begin := addr / 64 * 64
		for k := range uint64(64) {
			tells(t, []api.Note{write(addr, 8), ic(begin + k), isb(1)}, 1, addr, 7, 8)
			tells(t, []api.Note{write(addr, 8), ic(begin - 1 - k), isb(1)}, 1, addr, 7, 7, 8)
			tells(t, []api.Note{write(addr, 8), ic(begin + 64 + k), isb(1)}, 1, addr, 7, 7, 8)
		}
		for bit := 6; bit < 64; bit++ {
			tells(t, []api.Note{write(addr, 8), ic(addr ^ 1<<bit), isb(1)}, 1, addr, 7, 7, 8)
		}
		tells(t, []api.Note{write(addr, 8), icAll(), isb(1)}, 1, addr, 7, 8)
	}
}

// P15.1: the versions of an address are what was written to just that one.
func TestOtherAddresses(t *testing.T) {
	for _, addr := range []uint64{0, 64, 68, 1 << 63, math.MaxUint64 - 3} {
		for bit := 2; bit < 64; bit++ {
			other := addr ^ 1<<bit
			tells(t, []api.Note{write(other, 8)}, 1, addr, 7, 7)
			tells(t, []api.Note{write(addr, 8), write(other, 9)}, 1, addr, 7, 7, 8)
			tells(t, []api.Note{write(addr, 8), ic(addr), write(other, 9), ic(other), isb(1)}, 1, addr, 7, 8)
			tells(t, []api.Note{write(other, 9), icAll(), isb(1)}, 1, addr, 7, 7)
		}
	}
}

// P15.1: each word stands once, at its first place among the versions that are not lost; words of all 32 bits are held apart.
func TestWordsOnce(t *testing.T) {
	tells(t, []api.Note{write(64, 7)}, 1, 64, 7, 7)
	tells(t, []api.Note{write(64, 8), write(64, 7), write(64, 8), write(64, 9), write(64, 7)}, 1, 64, 7, 7, 8, 9)
	tells(t, []api.Note{write(64, 8), ic(64), isb(1), write(64, 7), write(64, 8), write(64, 9), write(64, 7)}, 1, 64, 7, 8, 7, 9)
	tells(t, []api.Note{write(64, 8), write(64, 7), ic(64), isb(1)}, 1, 64, 7, 7)
	tells(t, []api.Note{write(64, 0)}, 1, 64, 7, 7, 0)
	tells(t, []api.Note{write(64, 7)}, 1, 64, 0, 0, 7)
	for bit := range 32 {
		tells(t, []api.Note{write(64, 7^1<<bit), write(64, 7)}, 1, 64, 7, 7, 7^1<<bit)
	}
	tells(t, []api.Note{write(64, math.MaxUint32), write(64, 1<<31), write(64, math.MaxUint32)}, 1, 64, 7, 7, math.MaxUint32, 1<<31)
}

// P15.1: what was fetched changes nothing.
func TestFetchesChangeNothing(t *testing.T) {
	trace := []api.Note{write(64, 8), ic(64), isb(1), write(64, 9)}
	for k := range len(trace) + 1 {
		for _, n := range []api.Note{ran(1, 64, 8), ran(1, 64, 5), ran(0, 64, 7), ran(1, 128, 0)} {
			more := slices.Insert(slices.Clone(trace), k, n)
			tells(t, more, 1, 64, 7, 8, 9)
			tells(t, more, 0, 64, 7, 7, 8, 9)
		}
	}
}

// P15.1, P6: cores and addresses of which nothing may be asked.
func TestWrongQuestions(t *testing.T) {
	for _, trace := range [][]api.Note{nil, {write(64, 8), ic(64), isb(1)}} {
		for _, core := range odd() {
			if l, e := fetch.May(trace, core, 64, 7); len(l) != 0 || e != api.ErrArg {
				t.Error("core", core, l, e)
			}
		}
		for _, addr := range unaligned() {
			if l, e := fetch.May(trace, 1, addr, 7); len(l) != 0 || e != api.ErrArg {
				t.Error("addr", addr, l, e)
			}
		}
		if l, e := fetch.May(trace, -1, 65, 7); len(l) != 0 || e != api.ErrArg {
			t.Error("both", l, e)
		}
		for core := range 8 {
			tells(t, trace, core, 0, 7, 7)
			tells(t, trace, core, math.MaxUint64-3, 7, 7)
		}
	}
}

// P15.1, P15.2: all short traces of few notes, against the model.
func TestShortTraces(t *testing.T) {
	notes := []api.Note{write(64, 8), write(64, 9), write(68, 8), ic(100), ic(0), icAll(), isb(1), isb(0), ran(1, 64, 8), ran(1, 64, 7)}
	traces := [][]api.Note{nil}
	for range 4 {
		var longer [][]api.Note
		for _, trace := range traces {
			same(t, trace, 1, 64)
			for _, n := range notes {
				longer = append(longer, append(slices.Clone(trace), n))
			}
		}
		traces = longer
	}
	for _, trace := range traces {
		same(t, trace, 1, 64)
	}
}

// P15.1, P15.2: many longer ones by chance, against the model.
func TestByChance(t *testing.T) {
	r := rand.New(rand.NewSource(151))
	shorter, places := 0, 0
	for range 20000 {
		trace := make([]api.Note, r.Intn(24))
		for k := range trace {
			trace[k] = chance(r)
		}
		for range 3 {
			same(t, trace, pick(r, 0, 1, 7, 3), pick[uint64](r, 64, 68, 124, 128, 0, math.MaxUint64-3))
		}
		if len(model(trace).may(1, 64, 7)) < len(model(trace).may(3, 64, 7)) {
			shorter++
		}
		if model(trace).check(firstOf) > 6 {
			places++
		}
	}
	if shorter < 1000 || places < 1000 {
		t.Error("too few", shorter, places)
	}
}
