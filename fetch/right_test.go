package fetch_test

import (
	"math"
	"math/rand"
	"slices"
	"testing"

	"understudy/api"
	"understudy/fetch"
)

// sample is a trace that is right, with a note of each kind, at the ends of what its fields may be.
func sample() []api.Note {
	return []api.Note{
		write(64, 8), write(math.MaxUint64-3, math.MaxUint32), ic(0), ic(67), ic(math.MaxUint64), icAll(), isb(0), isb(7),
		ran(0, 0, firstOf(0)), ran(7, math.MaxUint64-3, math.MaxUint32), ran(3, 64, 8),
	}
}

// with is the sample with one note changed.
func with(k int, change func(n *api.Note)) []api.Note {
	trace := sample()
	change(&trace[k])
	return trace
}

// P15.1, P15.2: the sample is right, each of its notes alone, and none; so is each core.
func TestRight(t *testing.T) {
	same(t, nil, 1, 64)
	same(t, sample(), 7, 64)
	finds(t, sample(), firstOf, -1)
	for k := range sample() {
		same(t, sample()[k:k+1], 1, 64)
	}
	for core := range 8 {
		same(t, []api.Note{isb(core), ran(core, 64, 8)}, core, 64)
	}
}

// P15.1, P15.2: kinds that are none, wherever the note stands.
func TestWrongKinds(t *testing.T) {
	for k := range sample() {
		for _, kind := range append(odd(), 0, 6, 7) {
			refused(t, with(k, func(n *api.Note) { n.Kind = kind }))
		}
	}
	refused(t, []api.Note{{}})
	refused(t, []api.Note{{Core: 1, Addr: 64, Word: 7}})
}

// P15.1, P15.2: cores that are none, of NIsb and NFetch as of the kinds that have no core.
func TestWrongCores(t *testing.T) {
	for k, of := range sample() {
		for _, core := range odd() {
			refused(t, with(k, func(n *api.Note) { n.Core = core }))
		}
		for core := 1; core < 8; core++ {
			trace := with(k, func(n *api.Note) { n.Core = core })
			if of.Kind == api.NIsb || of.Kind == api.NFetch {
				same(t, trace, 7, 64)
			} else {
				refused(t, trace)
			}
		}
	}
}

// P15.1, P15.2: an address of NWrite and NFetch is a multiple of 4, one of NIc any, and others have none.
func TestWrongAddresses(t *testing.T) {
	for k, of := range sample() {
		for _, addr := range unaligned() {
			trace := with(k, func(n *api.Note) { n.Addr = addr })
			if of.Kind == api.NIc {
				same(t, trace, 7, 64)
			} else {
				refused(t, trace)
			}
		}
		for bit := 2; bit < 64; bit++ {
			trace := with(k, func(n *api.Note) { n.Addr = 1 << bit })
			if of.Kind == api.NIcAll || of.Kind == api.NIsb {
				refused(t, trace)
			} else {
				same(t, trace, 7, 64)
			}
		}
	}
}

// P15.1, P15.2: only NWrite and NFetch have a word.
func TestWrongWords(t *testing.T) {
	for k, of := range sample() {
		for bit := range 32 {
			trace := with(k, func(n *api.Note) { n.Word = 1 << bit })
			if of.Kind == api.NWrite || of.Kind == api.NFetch {
				same(t, trace, 7, 64)
			} else {
				refused(t, trace)
			}
		}
	}
}

// P15.2: a trace that is not right is refused as a whole, though a fetch ahead of the fault may not be.
func TestWrongBehindFault(t *testing.T) {
	trace := []api.Note{ran(1, 64, 99), write(64, 8), isb(8)}
	finds(t, trace[:2], firstOf, 0)
	refused(t, trace)
	refused(t, slices.Concat(trace[:2], sample(), trace[2:]))
}

// P15.1, P15.2: many traces with a field or two changed by chance, against the model.
func TestRightByChance(t *testing.T) {
	r := rand.New(rand.NewSource(152))
	numbers := append(odd(), 0, 1, 2, 3, 4, 5, 6, 7, 60, 65)
	seen := map[bool]int{}
	for range 20000 {
		trace := make([]api.Note, 1+r.Intn(6))
		for k := range trace {
			trace[k] = chance(r)
		}
		for range r.Intn(3) {
			n := &trace[r.Intn(len(trace))]
			number := pick(r, numbers...)
			switch r.Intn(4) {
			case 0:
				n.Kind = number
			case 1:
				n.Core = number
			case 2:
				n.Addr = uint64(number)
			case 3:
				n.Word = uint32(number)
			}
		}
		seen[model(trace).right()]++
		same(t, trace, 1, 64)
	}
	if seen[true] < 5000 || seen[false] < 5000 {
		t.Error("too few", seen)
	}
}

// P3: a trace that is handed in stays as it is, with what stands behind it in its array, refused or not.
func TestTraceStays(t *testing.T) {
	room := append(sample(), write(64, 1), isb(99), api.Note{})
	was := slices.Clone(room)
	for end := range len(room) + 1 {
		fetch.May(room[:end], 1, 64, 7)
		fetch.Check(room[:end], firstOf)
		if !slices.Equal(room, was) {
			t.Fatal(end, room)
		}
	}
}

// scribble writes over a list and its spare room.
func scribble(list []uint32) {
	list = list[:cap(list)]
	for k := range list {
		list[k] = 0xDEADBEEF
	}
}

// P3, P4: a list that is answered is new memory, spare room too, and hangs on nothing that was asked ahead of it.
func TestListsAreNew(t *testing.T) {
	for many := range 10 {
		var trace []api.Note
		want := []uint32{7}
		for k := range many {
			trace = append(trace, write(64, uint32(100+k)))
			want = append(want, uint32(100+k))
		}
		was := slices.Clone(trace)
		one, _ := fetch.May(trace, 1, 64, 7)
		two, _ := fetch.May(trace, 1, 64, 7)
		scribble(one)
		if !slices.Equal(two, want) || !slices.Equal(trace, was) {
			t.Fatal(many, two, trace)
		}
		tells(t, trace, 1, 64, 7, want...)
	}
}
