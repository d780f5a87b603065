package fetch

import (
	"slices"

	"understudy/api"
)

// past is what the notes of a trace so far tell of the words that may be fetched. Each note's moment is how many there were ahead of it. Of each thing that may be asked it keeps a rising list, so that a long trace is not gone over again for each fetch.
type past struct {
	now    int
	writes map[uint64][]int  // by addresses: the moments of their NWrites
	lines  map[uint64][]int  // by lines: those of their NIcs
	all    []int             // those of the NIcAlls
	isbs   [api.MaxCores]int // by cores: that of the last NIsb; as 0 has nothing ahead of it, it is none as well
	newest map[wordAt]int    // the last version that has a word, by how many NWrites of the address there were with it
}

// wordAt is a word of an address.
type wordAt struct {
	addr uint64
	word uint32
}

func newPast() *past {
	return &past{writes: map[uint64][]int{}, lines: map[uint64][]int{}, newest: map[wordAt]int{}}
}

// add takes in the next note.
func (p *past) add(n api.Note) {
	switch n.Kind {
	case api.NWrite:
		p.writes[n.Addr] = append(p.writes[n.Addr], p.now)
		p.newest[wordAt{n.Addr, n.Word}] = len(p.writes[n.Addr])
	case api.NIc:
		p.lines[line(n.Addr)] = append(p.lines[line(n.Addr)], p.now)
	case api.NIcAll:
		p.all = append(p.all, p.now)
	case api.NIsb:
		p.isbs[n.Core] = p.now
	}
	p.now++
}

// lost is how many versions of an address are lost to a core; they are the oldest ones. Each of the NWrites ahead of what the core took note of last has made one more old, and no other one.
func (p *past) lost(core int, addr uint64) int {
	noted := max(lastAhead(p.lines[line(addr)], p.isbs[core]), lastAhead(p.all, p.isbs[core]))
	return countAhead(p.writes[addr], noted)
}

// may tells whether the word of a fetch may be, where first stood ahead of the trace. A word of several versions may, if the newest of them is not lost.
func (p *past) may(n api.Note, first uint32) bool {
	lost, newest := p.lost(n.Core, n.Addr), p.newest[wordAt{n.Addr, n.Word}]
	return lost == 0 && n.Word == first || newest > 0 && newest >= lost
}

// countAhead is how many of the moments, which rise, are ahead of one.
func countAhead(moments []int, end int) int {
	count, _ := slices.BinarySearch(moments, end)
	return count
}

// lastAhead is the last of the moments ahead of one; -1, if there is none.
func lastAhead(moments []int, end int) int {
	count := countAhead(moments, end)
	if count == 0 {
		return -1
	}
	return moments[count-1]
}
