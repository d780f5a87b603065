package lift_test

import (
	"math/rand"
	"slices"
	"testing"

	"understudy/api"
)

// steps runs blocks of at most so many words, one behind the other, until one is left otherwise than to the address behind it.
func steps(t *testing.T, words []uint32, many int, c api.Core, gots []api.Got) deeds {
	t.Helper()
	var all deeds
	for len(words) > 0 {
		part := words[:min(many, len(words))]
		d := byRun(t, lifted(t, c.PC, c.EL, part...), c, gots[len(all.wants):])
		all.wants, all.states = append(all.wants, d.wants...), append(all.states, d.states...)
		all.core, all.word, all.guest, all.faulted = d.core, d.word, d.guest, d.faulted
		words = words[len(part):]
		if d.guest || d.faulted {
			break
		}
		c = d.core
	}
	return all
}

// P17.4: blocks one behind the other do what one would do: the words of a block, apart at each place, do the same.
func TestOneBehindTheOther(t *testing.T) {
	r := rand.New(rand.NewSource(17))
	for range 2000 {
		words := anyWords(t, r, 2+r.Intn(15))
		words = words[:length(words)]
		c, gots := anyCore(r, r.Intn(2), anyPC(r)), anyGots(r, 16)
		whole := agree(t, words, c, gots)
		for many := 1; many < len(words); many++ {
			if apart := steps(t, words, many, c, gots); !same(whole, apart) {
				t.Fatalf("%x by %d:\n%+v, not\n%+v", words, many, apart, whole)
			}
		}
	}
}

// P17.4: what is wanted comes in the order of the words; a program of more than one block, with branches, on a memory,
// against sem word by word.
func TestProgram(t *testing.T) {
	loop := wordsOf(t,
		api.Insn{Op: api.MovWide, Sub: 2, Rd: 0, Imm: 10},
		api.Insn{Op: api.MovWide, Sub: 2, Rd: 1, Imm: 0x1000},
		api.Insn{Op: api.Str, Rd: 0, Rn: 1},
		api.Insn{Op: api.Ldr, Rd: 2, Rn: 1},
		api.Insn{Op: api.AddReg, Rd: 3, Rn: 3, Rm: 2},
		api.Insn{Op: api.AddImm, Rd: 0, Rn: 0, Imm: 1, Minus: true, Flags: true},
		api.Insn{Op: api.BCond, Cond: 1, Imm: -16},
		api.Insn{Op: api.Svc, Imm: 7},
	)
	c := api.Core{PC: 64}
	memory := map[uint64]uint64{}
	var order []int
	for range 100 {
		k := (c.PC - 64) / 4
		d := onMemory(t, loop[k:k+uint64(length(loop[k:]))], c, memory, &order)
		if c = d.core; d.guest {
			break
		}
	}
	if c.PC != 92 || c.X[3] != 55 || memory[0x1000] != 1 || !slices.Equal(order, slices.Repeat([]int{api.WStore, api.WLoad}, 10)) {
		t.Error(c, memory, order)
	}
}

// onMemory runs one block, with what a memory answers: first without, to find out what it wants next, then with all answers.
func onMemory(t *testing.T, words []uint32, c api.Core, memory map[uint64]uint64, order *[]int) deeds {
	t.Helper()
	var gots []api.Got
	for {
		d := byRun(t, lifted(t, c.PC, c.EL, words...), c, append(slices.Clone(gots), make([]api.Got, 16)...))
		if len(d.wants) == len(gots) {
			return agree(t, words, c, append(gots, make([]api.Got, 16)...))
		}
		w := d.wants[len(gots)]
		*order = append(*order, w.Kind)
		if w.Kind == api.WStore {
			memory[w.Addr] = w.Value
		}
		gots = append(gots, api.Got{Value: memory[w.Addr]})
	}
}
