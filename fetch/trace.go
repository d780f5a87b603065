package fetch

import (
	"iter"

	"understudy/api"
)

// those goes over the notes of a trace of which this holds, with their places.
func those(trace []api.Note, holds func(api.Note) bool) iter.Seq2[int, api.Note] {
	return func(yield func(int, api.Note) bool) {
		for place, n := range trace {
			if holds(n) && !yield(place, n) {
				return
			}
		}
	}
}

// find is the place of the first note of which this holds; -1, if there is none. The notes behind it are not asked.
func find(trace []api.Note, holds func(api.Note) bool) int {
	found := -1
	for place := range those(trace, holds) {
		found = place
		break
	}
	return found
}

func right(trace []api.Note) bool { return find(trace, isWrong) < 0 }

// isWrong tells whether a note has not the form of its kind: those fields that the kind has, as they may be, and no others.
func isWrong(n api.Note) bool {
	switch n.Kind {
	case api.NWrite:
		return n.Core != 0 || !isOfWord(n.Addr)
	case api.NIc:
		return n.Core != 0 || n.Word != 0
	case api.NIcAll:
		return n.Core != 0 || n.Addr != 0 || n.Word != 0
	case api.NIsb:
		return !isCore(n.Core) || n.Addr != 0 || n.Word != 0
	case api.NFetch:
		return !isCore(n.Core) || !isOfWord(n.Addr)
	}
	return true
}

// bearsOn is a question: does a note bear on what a core may fetch at an address?
func bearsOn(core int, addr uint64) func(api.Note) bool {
	return func(n api.Note) bool {
		switch n.Kind {
		case api.NWrite:
			return n.Addr == addr
		case api.NIc:
			return line(n.Addr) == line(addr)
		case api.NIcAll:
			return true
		case api.NIsb:
			return n.Core == core
		}
		return false
	}
}

func isCore(core int) bool { return core >= 0 && core < api.MaxCores }

// isOfWord tells whether a word can stand at an address.
func isOfWord(addr uint64) bool { return addr%4 == 0 }

func line(addr uint64) uint64 { return addr &^ (api.Line - 1) }
