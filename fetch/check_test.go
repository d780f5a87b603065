package fetch_test

import (
	"math"
	"slices"
	"testing"

	"understudy/api"
	"understudy/fetch"
)

func seven(uint64) uint32 { return 7 }

// P15.2: the first fetch that may not be, by what stands ahead of it alone.
func TestCheck(t *testing.T) {
	trace := []api.Note{write(64, 8), ran(1, 64, 7), ic(100), isb(1), ran(1, 64, 7)}
	finds(t, trace, seven, 4)
	finds(t, trace[:4], seven, -1)
	finds(t, nil, seven, -1)
	finds(t, []api.Note{}, seven, -1)
	finds(t, []api.Note{ran(1, 64, 7)}, seven, -1)
	finds(t, []api.Note{ran(1, 64, 8)}, seven, 0)
	finds(t, []api.Note{ran(1, 64, 8), write(64, 8)}, seven, 0)
	finds(t, []api.Note{write(64, 8), ran(1, 64, 8)}, seven, -1)
	finds(t, []api.Note{write(64, 8), ran(1, 64, 9), ran(1, 64, 9), ran(1, 64, 7)}, seven, 1)
	finds(t, []api.Note{write(64, 8), ran(1, 64, 8), ran(1, 64, 7), ran(1, 64, 8)}, seven, -1)
	finds(t, []api.Note{write(64, 8), ic(64), ran(1, 64, 7), isb(1), ran(1, 64, 8)}, seven, -1)
	finds(t, []api.Note{write(64, 8), write(68, 9), icAll(), isb(1), isb(0)}, seven, -1)
}

// P15.2: a fetch may be, whichever of the versions that are not lost its word has; a word that came again may, one that did not may not.
func TestCheckVersions(t *testing.T) {
	words := []uint32{8, 9, 8, 7, 10}
	var trace []api.Note
	for _, w := range words {
		trace = append(trace, write(64, w))
	}
	for cut := range len(trace) + 1 {
		lost := slices.Insert(slices.Clone(trace), cut, ic(64))
		lost = append(lost, isb(1))
		left := append([]uint32{7}, words...)[cut:]
		for w := uint32(6); w < 12; w++ {
			want := len(lost)
			if slices.Contains(left, w) {
				want = -1
			}
			finds(t, append(slices.Clone(lost), ran(1, 64, w)), seven, want)
		}
	}
}

// P15.2: each core, and each address, has its own.
func TestCheckCoresAndAddresses(t *testing.T) {
	lost := []api.Note{write(64, 8), write(68, 8), write(128, 8), write(1<<32+64, 8), ic(64), isb(1)}
	for core := range 8 {
		for _, addr := range []uint64{64, 68, 128, 1<<32 + 64} {
			want := -1
			if core == 1 && addr < 128 {
				want = len(lost)
			}
			finds(t, append(slices.Clone(lost), ran(core, addr, 7)), seven, want)
			finds(t, append(slices.Clone(lost), ran(core, addr, 8)), seven, -1)
			finds(t, append(slices.Clone(lost), ran(core, addr, 9)), seven, len(lost))
		}
		for _, addr := range []uint64{0, 60, 72, 132, 1 << 32, 1<<32 + 68, math.MaxUint64 - 3} {
			finds(t, append(slices.Clone(lost), ran(core, addr, 7)), seven, -1)
			finds(t, append(slices.Clone(lost), ran(core, addr, 8)), seven, len(lost))
		}
	}
}

// P15.2: what stood at an address ahead of the trace is what first tells of that one.
func TestCheckFirst(t *testing.T) {
	first := func(addr uint64) uint32 { return uint32(addr>>32) + uint32(addr) }
	var trace []api.Note
	for _, addr := range []uint64{0, 4, 64, 4096, 1<<32 + 4, 1<<63 + 8, math.MaxUint64 - 3} {
		trace = append(trace, ran(int(addr%8), addr, first(addr)), ran(3, addr, first(addr)))
	}
	finds(t, trace, first, -1)
	for k := range trace {
		wrong := slices.Clone(trace)
		wrong[k].Word++
		finds(t, wrong, first, k)
	}
}

// P1: a first that panics tells no word: ErrArg, and nothing else changes; one that is not asked does no harm.
func TestFirstPanics(t *testing.T) {
	for _, what := range []any{"x", 0, nil, api.ErrArg} {
		wild := func(addr uint64) uint32 {
			if addr == 64 {
				panic(what)
			}
			return 7
		}
		if n, e := fetch.Check([]api.Note{ran(1, 0, 7), ran(1, 64, 7)}, wild); n != 0 || e != api.ErrArg {
			t.Error(what, n, e)
		}
		finds(t, []api.Note{ran(1, 0, 7), ran(1, 68, 7), write(64, 7), isb(1)}, wild, -1)
		finds(t, []api.Note{ran(1, 0, 7), ran(1, 68, 8), isb(1)}, wild, 1)
	}
	broken := func(addr uint64) uint32 { return []uint32{7, 7}[addr] }
	if n, e := fetch.Check([]api.Note{ran(1, 0, 7), ran(1, 64, 7)}, broken); n != 0 || e != api.ErrArg {
		t.Error(n, e)
	}
}

// P15.2: first may itself ask of the trace.
func TestFirstAsks(t *testing.T) {
	trace := []api.Note{write(64, 8), icAll(), isb(1), ran(1, 64, 7), ran(1, 68, 7)}
	first := func(addr uint64) uint32 {
		n, _ := fetch.Check(trace, seven)
		l, _ := fetch.May(trace, 1, addr, 7)
		return l[0] + uint32(n)
	}
	finds(t, []api.Note{ran(1, 64, 11), ran(1, 68, 10), ran(0, 64, 10)}, first, 2)
}

// P15.1, P15.2, P1: long traces, in which many versions, many lines, many NIcs and many NIsbs stand between, end as short ones do.
func TestLongTraces(t *testing.T) {
	const many = 200000
	var versions, spread []api.Note
	for k := range many {
		versions = append(versions, write(64, uint32(k)), ran(1, 64, uint32(k/2)))
		at := uint64(k) * 4
		spread = append(spread, write(at, uint32(k)), ic(at), icAll(), isb(1), ran(1, at, uint32(k)))
	}
	finds(t, versions, seven, -1)
	finds(t, spread, seven, -1)
	if l, e := fetch.May(versions, 1, 64, 7); e != api.OK || len(l) != many || l[0] != 7 || l[1] != 0 || l[8] != 8 {
		t.Error(len(l), e)
	}
	versions = append(versions, ic(64), isb(1))
	tells(t, versions, 1, 64, 7, many-1)
	finds(t, append(versions, ran(1, 64, many-1), ran(1, 64, many-2)), seven, len(versions)+1)
	tells(t, spread, 1, 400, 7, 100)
	tells(t, spread, 0, 400, 7, 7, 100)
	finds(t, append(spread, ran(0, 400, 7), ran(1, 404, 101), ran(1, 400, 7)), seven, len(spread)+2)
}
