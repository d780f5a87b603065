package axiom_test

import (
	"math"
	"math/rand"
	"slices"
	"testing"

	"understudy/api"
	"understudy/axiom"
)

// sample is a list that is right, with an event of each kind, and each field that a kind has.
func sample() []api.Event {
	return []api.Event{
		{Core: 0, Po: 0, Kind: api.EvWrite, Addr: 8, Value: 5, Stamp: 3, Rel: true, Ex: true},
		{Core: 0, Po: 4, Kind: api.EvRead, Addr: 8, Value: 6, Stamp: 7, Acq: 2, Ex: true},
		{Core: 0, Po: 6, Kind: api.EvFence, Fence: api.FenceSt, Adr: []int{4}, Dat: []int{4}, Ctl: []int{4, 4}},
		{Core: 0, Po: 9, Kind: api.EvIsb, Adr: []int{4}, Dat: []int{4, 4}, Ctl: []int{4}},
		{Core: 7, Po: 4, Kind: api.EvRead, Addr: 8, Value: 9, Stamp: 0, Acq: 1},
		{Core: 7, Po: math.MaxInt - 1, Kind: api.EvRead, Addr: 8, Value: 9, Adr: []int{4}, Dat: []int{4}, Ctl: []int{4}},
		{Core: 7, Po: math.MaxInt, Kind: api.EvWrite, Addr: 8, Value: 6, Stamp: 7, Dat: []int{math.MaxInt - 1, 4}},
		{Core: 3, Po: 4, Kind: api.EvWrite, Addr: 0, Value: 1, Stamp: 3},
		{Core: 3, Po: 5, Kind: api.EvRead, Addr: 0, Value: 4},
	}
}

// with is the sample with one event changed.
func with(k int, change func(e *api.Event)) []api.Event {
	l := sample()
	change(&l[k])
	return l
}

// P14.1: the sample is right; so are those of its events that need no others, and the list of nothing.
func TestRight(t *testing.T) {
	same(t, nil)
	same(t, []api.Event{})
	same(t, sample())
	same(t, sample()[4:])
	for _, fence := range []int{api.FenceLd, api.FenceSt, api.FenceFull} {
		same(t, with(2, func(e *api.Event) { e.Fence = fence }))
	}
	for acq := range 3 {
		same(t, with(1, func(e *api.Event) { e.Acq = acq }))
	}
	for core := range 8 {
		if core != 0 && core != 7 {
			same(t, with(8, func(e *api.Event) { e.Core = core }))
		}
	}
}

// P14.1: 64 events are not too many; 65 are, whatever they are.
func TestLong(t *testing.T) {
	full := make([]api.Event, 64)
	for k := range full {
		full[k] = api.Event{Core: k % 8, Po: k / 8, Kind: api.EvWrite, Addr: 8, Value: 1, Stamp: 64 - k}
	}
	same(t, full)
	more := append(slices.Clone(full), api.Event{Core: 0, Po: 99, Kind: api.EvIsb})
	refused(t, api.ErrLong, more)
	same(t, more[1:])
	more[3].Kind = 9
	refused(t, api.ErrLong, more)
	more[3] = full[2]
	refused(t, api.ErrLong, more)
	refused(t, api.ErrLong, make([]api.Event, 65))
	refused(t, api.ErrLong, make([]api.Event, 1<<16))
	refused(t, api.ErrArg, make([]api.Event, 64))
}

// P14.1: cores, places, kinds, Acq and Fence that may not be, in each event.
func TestWrongNumbers(t *testing.T) {
	for k, of := range sample() {
		for _, no := range append(odd(), 8, 9, 64) {
			refused(t, api.ErrArg, with(k, func(e *api.Event) { e.Core = no }))
		}
		for _, no := range odd() {
			if no < 0 {
				refused(t, api.ErrArg, with(k, func(e *api.Event) { e.Po = no }))
			}
		}
		for _, no := range append(odd(), 0, 5, 6) {
			refused(t, api.ErrArg, with(k, func(e *api.Event) { e.Kind = no }))
		}
		for _, no := range append(odd(), 3, 4, 5) {
			refused(t, api.ErrArg, with(k, func(e *api.Event) { e.Acq = no }))
		}
		for _, no := range append(odd(), 1, 2, 3, 4, 5, 6, 7, 8, 9, 11, 12, 14, 16, 26, 29, 31) {
			refused(t, api.ErrArg, with(k, func(e *api.Event) { e.Fence = no }))
		}
		if of.Kind == api.EvFence {
			refused(t, api.ErrArg, with(k, func(e *api.Event) { e.Fence = 0 }))
		}
	}
}

// P14.1: two events of one core with one place, whatever their kinds are; of two cores it may be.
func TestOnePlace(t *testing.T) {
	for a, of := range sample() {
		for b := range sample() {
			if a != b {
				refused(t, api.ErrArg, with(b, func(e *api.Event) { e.Core, e.Po = of.Core, of.Po }))
			}
		}
	}
	for core := range 8 {
		l := []api.Event{{Core: core, Po: 2, Kind: api.EvIsb}, {Core: (core + 1) % 8, Po: 2, Kind: api.EvIsb}}
		same(t, l)
		l[1].Core = core
		refused(t, api.ErrArg, l)
	}
}

// fields are changes of one field each, to what is not nothing.
func fields() map[string]func(e *api.Event) {
	return map[string]func(e *api.Event){
		"Addr":  func(e *api.Event) { e.Addr = 1 << 63 },
		"Value": func(e *api.Event) { e.Value = 1 << 32 },
		"Acq":   func(e *api.Event) { e.Acq = 1 },
		"Rel":   func(e *api.Event) { e.Rel = true },
		"Ex":    func(e *api.Event) { e.Ex = true },
		"Fence": func(e *api.Event) { e.Fence = api.FenceFull },
		"Stamp": func(e *api.Event) { e.Stamp = 1 },
		"Under": func(e *api.Event) { e.Stamp = -1 },
	}
}

// P14.1: a field that a kind does not have is nothing there; one that it has may be something.
func TestFieldsOfKinds(t *testing.T) {
	has := map[int][]string{
		api.EvRead:  {"Addr", "Value", "Acq", "Ex", "Stamp", "Under"},
		api.EvWrite: {"Addr", "Value", "Rel", "Ex", "Stamp", "Under"},
		api.EvFence: {"Fence"},
		api.EvIsb:   nil,
	}
	for kind, named := range has {
		for name, change := range fields() {
			e := api.Event{Kind: kind}
			if kind == api.EvWrite {
				e.Stamp = 1
			}
			if kind == api.EvFence {
				e.Fence = api.FenceLd
			}
			change(&e)
			l := []api.Event{e}
			switch {
			case !slices.Contains(named, name):
				refused(t, api.ErrArg, l)
			case name == "Under" || kind == api.EvRead && name == "Stamp":
				refused(t, api.ErrRun, l)
			default:
				same(t, l)
			}
		}
	}
}

// P14.1: Stamps of writes: below 1, and two of one address, of one core or two; of two addresses they may be.
func TestWriteStamps(t *testing.T) {
	for _, k := range []int{0, 7} {
		for _, no := range []int{0, -1, -2, -1 << 32, math.MinInt} {
			refused(t, api.ErrRun, with(k, func(e *api.Event) { e.Stamp = no }))
		}
		same(t, with(k, func(e *api.Event) { e.Stamp = math.MaxInt }))
	}
	refused(t, api.ErrRun, with(0, func(e *api.Event) { e.Stamp = 7 }))
	refused(t, api.ErrRun, with(0, func(e *api.Event) { e.Stamp, e.Value = 7, 6 }))
	refused(t, api.ErrRun, with(7, func(e *api.Event) { e.Addr = 8 }))
	l := []api.Event{{Kind: api.EvWrite, Stamp: 1, Value: 1}, {Po: 1, Kind: api.EvWrite, Stamp: 1, Value: 1}}
	refused(t, api.ErrRun, l)
	l[1].Addr = 1
	same(t, l)
}

// P14.1: a read's Stamp that no write of its address has, or one with another Value.
func TestReadStamps(t *testing.T) {
	for _, no := range []int{-7, -1, 1, 2, 4, 6, 8, 1<<32 + 7, math.MaxInt, math.MinInt} {
		refused(t, api.ErrRun, with(1, func(e *api.Event) { e.Stamp = no }))
	}
	refused(t, api.ErrRun, with(1, func(e *api.Event) { e.Stamp = 3 }))
	same(t, with(1, func(e *api.Event) { e.Stamp, e.Value = 3, 5 }))
	refused(t, api.ErrRun, with(1, func(e *api.Event) { e.Value = 5 }))
	refused(t, api.ErrRun, with(6, func(e *api.Event) { e.Value = 1<<32 + 6 }))
	refused(t, api.ErrRun, with(1, func(e *api.Event) { e.Addr = 9 }))
	refused(t, api.ErrRun, with(6, func(e *api.Event) { e.Addr = 1<<32 + 8 }))
	// The only thing there with its Stamp is the read itself, or another read.
	refused(t, api.ErrRun, []api.Event{{Kind: api.EvRead, Stamp: 1}})
	refused(t, api.ErrRun, []api.Event{{Kind: api.EvRead, Stamp: 1}, {Po: 1, Kind: api.EvRead, Stamp: 1}})
}

// P14.1: reads of the first bytes of one address have one Value, which need not be that of any write; of two addresses each has its own.
func TestFirstBytes(t *testing.T) {
	for _, k := range []int{4, 5} {
		refused(t, api.ErrRun, with(k, func(e *api.Event) { e.Value = 6 }))
		refused(t, api.ErrRun, with(k, func(e *api.Event) { e.Value = 0 }))
		same(t, with(k, func(e *api.Event) { e.Addr, e.Value = 16, 0 }))
	}
	same(t, with(8, func(e *api.Event) { e.Value = math.MaxUint64 }))
	l := []api.Event{{Kind: api.EvRead, Value: 3}, {Core: 1, Kind: api.EvRead, Value: 3}, {Core: 2, Kind: api.EvRead, Value: 3}}
	same(t, l)
	l[2].Value = 4
	refused(t, api.ErrRun, l)
	// A fence and an isb have Addr, Value and Stamp 0 as well, but are no reads.
	same(t, []api.Event{{Kind: api.EvRead, Value: 3}, {Po: 1, Kind: api.EvFence, Fence: api.FenceFull}, {Po: 2, Kind: api.EvIsb}})
}

// P14.1: places on which an event depends: not below its own, nothing there, no read, a read of another core; in each of the three lists, of each kind, at each place of the list.
func TestDependencies(t *testing.T) {
	base := []api.Event{
		{Core: 1, Po: 1, Kind: api.EvRead}, {Core: 1, Po: 2, Kind: api.EvWrite, Stamp: 1},
		{Core: 1, Po: 3, Kind: api.EvFence, Fence: api.FenceLd}, {Core: 1, Po: 4, Kind: api.EvIsb},
		{Core: 1, Po: 7, Kind: api.EvRead}, {Core: 2, Po: 0, Kind: api.EvRead}, {Core: 2, Po: 5, Kind: api.EvRead},
		{Core: 1, Po: 8, Kind: api.EvRead},
	}
	kinds := []api.Event{
		{Kind: api.EvRead}, {Kind: api.EvWrite, Stamp: 2}, {Kind: api.EvFence, Fence: api.FenceSt}, {Kind: api.EvIsb},
	}
	for _, e := range kinds {
		e.Core, e.Po = 1, 6
		for list := range 3 {
			try := func(want api.Errno, places ...int) {
				t.Helper()
				k := e
				*[]*[]int{&k.Adr, &k.Dat, &k.Ctl}[list] = places
				l := append(slices.Clone(base), k)
				if want == api.OK {
					same(t, l)
				} else {
					refused(t, want, l)
				}
			}
			try(api.OK, 1)
			try(api.OK, 1, 1, 1)
			for _, no := range append(odd(), 0, 2, 3, 4, 5, 6, 7, 8, 9, 1<<32+1) {
				try(api.ErrRun, no)
				try(api.ErrRun, 1, no)
				try(api.ErrRun, no, 1)
			}
		}
	}
}

// P14.1: ErrArg is told ahead of ErrRun, wherever the two events stand.
func TestErrArgFirst(t *testing.T) {
	runs := []func(e *api.Event){
		func(e *api.Event) { e.Stamp = -1 },
		func(e *api.Event) { e.Adr = []int{-1} },
		func(e *api.Event) { e.Ctl = []int{e.Po} },
	}
	args := []func(e *api.Event){
		func(e *api.Event) { e.Core = 8 },
		func(e *api.Event) { e.Po = -1 },
		func(e *api.Event) { e.Kind = 0 },
		func(e *api.Event) { e.Acq = 3 },
		func(e *api.Event) { e.Fence = 1 },
	}
	for a := range sample() {
		for b, of := range sample() {
			for _, run := range runs {
				for _, arg := range args {
					l := sample()
					if of.Kind == api.EvRead || of.Kind == api.EvWrite {
						run(&l[b])
						refused(t, api.ErrRun, l)
						arg(&l[a])
						refused(t, api.ErrArg, l)
					}
				}
			}
		}
	}
}

// P14.1: many lists with one thing or two changed by chance, against the model.
func TestRightByChance(t *testing.T) {
	r := rand.New(rand.NewSource(141))
	numbers := append(odd(), 0, 1, 2, 3, 4, 5, 7, 8, 10, 13, 15)
	seen := map[api.Errno]int{}
	for range 30000 {
		l := shape{1 + r.Intn(3), 1 + r.Intn(2), 8, 5}.chance(r, 1+r.Intn(8))
		for range r.Intn(3) {
			e := &l[r.Intn(len(l))]
			n := pick(r, numbers...)
			switch r.Intn(12) {
			case 0:
				e.Core = n
			case 1, 2:
				e.Po = n
			case 3:
				e.Kind = n
			case 4:
				e.Addr = uint64(n)
			case 5:
				e.Value = uint64(n)
			case 6:
				e.Acq = n
			case 7:
				e.Rel = !e.Rel
			case 8:
				e.Fence = n
			case 9:
				e.Stamp = n
			default:
				*pick(r, &e.Adr, &e.Dat, &e.Ctl) = []int{n}
			}
		}
		want := model(l).right()
		seen[want]++
		if e := axiom.Right(l); e != want {
			t.Fatal(e, want, l)
		}
	}
	for _, e := range []api.Errno{api.OK, api.ErrArg, api.ErrRun} {
		if seen[e] < 1000 {
			t.Error("too few", e, seen)
		}
	}
}
