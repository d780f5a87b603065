package lift_test

import (
	"testing"

	"understudy/api"
	"understudy/code"
	"understudy/ir"
	"understudy/lift"
	"understudy/sem"
)

// asked is a memory of words from an address on, which keeps what it was asked.
type asked struct {
	from  uint64
	words []uint32
	addrs []uint64
}

func (a *asked) word(addr uint64) (uint32, bool) {
	a.addrs = append(a.addrs, addr)
	if k := (addr - a.from) / 4; k < uint64(len(a.words)) {
		return a.words[k], true
	}
	return 0x91000420, false // the word beside a false is nothing
}

// lifted is the block of some words, and nothing behind them.
func lifted(t *testing.T, pc uint64, el int, words ...uint32) api.Block {
	t.Helper()
	a := asked{from: pc, words: words}
	b, err := lift.Block(pc, el, a.word)
	if err != api.OK || !ir.Right(b) {
		t.Fatalf("%x at %#x: %v, %+v", words, pc, err, b)
	}
	return b
}

// isGuest is the list of P17.2.
func isGuest(i api.Insn) bool {
	switch i.Op {
	case api.Undef, api.Svc, api.Brk, api.Clrex, api.Isb, api.IcIvau, api.IcIallu, api.DcCvau, api.Mrs, api.Msr, api.MsrMask, api.Eret:
		return true
	case api.Dmb:
		return i.Sub == 1
	case api.Hint:
		return 2 <= i.Imm && i.Imm <= 5
	}
	return false
}

// isBranch tells of the other ones behind which a block ends.
func isBranch(i api.Insn) bool {
	switch i.Op {
	case api.B, api.BCond, api.Cbz, api.Tbz, api.Br:
		return true
	}
	return false
}

// length is how many of the words are of one block: P17.1 in its words.
func length(words []uint32) int {
	for k, w := range words {
		if i := code.Decode(w); isGuest(i) || isBranch(i) || k == 15 {
			return k + 1
		}
	}
	return len(words)
}

// deeds are all that was done: what was wanted, in which state, and how it was left.
type deeds struct {
	wants   []api.Want
	states  []api.Core
	core    api.Core
	word    uint32
	guest   bool
	faulted bool
}

func same(a, b deeds) bool {
	if len(a.wants) != len(b.wants) {
		return false
	}
	for k := range a.wants {
		if a.wants[k] != b.wants[k] || a.states[k] != b.states[k] {
			return false
		}
	}
	return a.core == b.core && a.word == b.word && a.guest == b.guest && a.faulted == b.faulted
}

// byWords is P17.2 in its words: sem, one instruction behind the other.
func byWords(t *testing.T, words []uint32, c api.Core, gots []api.Got) deeds {
	t.Helper()
	var d deeds
	for _, word := range words {
		want, err := sem.Begin(c, word)
		if err != api.OK {
			t.Fatal(err)
		}
		if isGuest(code.Decode(word)) {
			d.core, d.word, d.guest = c, word, true
			return d
		}
		var got api.Got
		switch want.Kind {
		case api.WTrap:
			d.core, d.faulted = c, true
			return d
		case api.WLoad, api.WLoadEx, api.WStore, api.WStoreEx, api.WFence:
			got = gots[len(d.wants)]
			d.wants, d.states = append(d.wants, want), append(d.states, c)
			if got.Fault != 0 && want.Kind != api.WFence {
				d.core, d.faulted = c, true
				return d
			}
		case api.WNone:
		default:
			t.Fatalf("%x wants %+v", word, want)
		}
		if c, err = sem.End(c, word, got); err != api.OK {
			t.Fatal(err)
		}
	}
	d.core = c
	return d
}

// byRun is what a run of a block does.
func byRun(t *testing.T, b api.Block, c api.Core, gots []api.Got) deeds {
	t.Helper()
	r, err := ir.New(b, c)
	if err != api.OK {
		t.Fatalf("%v of %+v", err, b)
	}
	var d deeds
	for {
		want, waits := r.Next()
		if !waits {
			break
		}
		got := gots[len(d.wants)]
		d.wants, d.states = append(d.wants, want), append(d.states, r.Core())
		if err := r.Take(got); err != api.OK {
			t.Fatal(err)
		}
	}
	d.core, d.faulted = r.Core(), r.Faulted()
	d.word, d.guest = r.Guest()
	return d
}

// agree holds the block of some words (all of which are of it) against sem, on a state, and tells how it was left.
func agree(t *testing.T, words []uint32, c api.Core, gots []api.Got) deeds {
	t.Helper()
	b := lifted(t, c.PC, c.EL, words...)
	want, have := byWords(t, words, c, gots), byRun(t, b, c, gots)
	if !same(want, have) {
		text, _ := ir.Text(b)
		t.Fatalf("%x of %+v, told %+v:\n%+v, not\n%+v\n%s", words, c, gots, have, want, text)
	}
	return have
}
