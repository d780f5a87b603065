package lift_test

import (
	"math"
	"math/rand"
	"slices"
	"testing"

	"understudy/api"
	"understudy/insn"
	"understudy/ir"
	"understudy/lift"
	"understudy/sem"
)

// anyWords are as many words, each of which is of any Op, or (seldom) any number; most of them end no block.
func anyWords(t *testing.T, r *rand.Rand, many int) []uint32 {
	t.Helper()
	var out []uint32
	for len(out) < many {
		i := right(r, 1+r.Intn(api.Hint))
		if insn.Ends(i) && r.Intn(8) > 0 {
			continue
		}
		if r.Intn(100) == 0 {
			out = append(out, r.Uint32())
			continue
		}
		out = append(out, wordOf(t, i))
	}
	return out
}

// P17.2, P17.3: each Op alone, on states by chance, of both levels, at any place.
func TestEachOp(t *testing.T) {
	r := rand.New(rand.NewSource(172))
	for _, i := range samples(200) {
		word := wordOf(t, i)
		for range 6 {
			agree(t, []uint32{word}, anyCore(r, r.Intn(2), anyPC(r)), anyGots(r, 1))
		}
	}
}

// P17.2: any numbers as words.
func TestAnyWord(t *testing.T) {
	r := rand.New(rand.NewSource(32))
	for range 50000 {
		word := r.Uint32()
		if r.Intn(2) == 0 { // near to one that is an instruction
			word = wordOf(t, right(r, 1+r.Intn(api.Hint))) ^ 1<<r.Intn(32)
		}
		agree(t, []uint32{word}, anyCore(r, r.Intn(2), anyPC(r)), anyGots(r, 1))
	}
}

// P17.2, P17.4: rows of instructions: what is wanted, in which state, and the state in the end are those of sem.
func TestRows(t *testing.T) {
	r := rand.New(rand.NewSource(174))
	faults, guests, branches, waits := 0, 0, 0, 0
	for range 20000 {
		words := anyWords(t, r, 1+r.Intn(16))
		words = words[:length(words)]
		c := anyCore(r, r.Intn(2), anyPC(r))
		d := agree(t, words, c, anyGots(r, 16))
		waits += len(d.wants)
		switch {
		case d.faulted:
			faults++
		case d.guest:
			guests++
		case d.core.PC != c.PC+4*uint64(len(words)):
			branches++
		}
	}
	if faults < 1000 || guests < 1000 || branches < 500 || waits < 10000 {
		t.Error(faults, guests, branches, waits)
	}
}

// cut is the block up to and with its IAt of the instruction k, and left there.
func cut(b api.Block, k int) api.Block {
	var ops []api.Op
	for _, o := range b.Ops {
		ops = append(ops, o)
		if o.Kind == api.IAt && k == 0 {
			ops = append(ops, api.Op{Kind: api.IExit, Imm: o.Imm})
			break
		}
		if o.Kind == api.IAt {
			k--
		}
	}
	b.Ops = ops
	return b
}

// P17.2: at the IAt of each instruction the state is as sem has it ahead of that instruction.
func TestStateAtEachInstruction(t *testing.T) {
	r := rand.New(rand.NewSource(175))
	for range 3000 {
		words := anyWords(t, r, 1+r.Intn(16))
		words = words[:length(words)]
		c := anyCore(r, r.Intn(2), anyPC(r))
		gots := anyGots(r, 16)
		b := lifted(t, c.PC, c.EL, words...)
		for k := range words {
			want, have := byWords(t, words[:k], c, gots), byRun(t, cut(b, k), c, gots)
			if !same(want, have) {
				t.Fatalf("%x, ahead of %d:\n%+v, not\n%+v", words, k, have, want)
			}
		}
	}
}

// P17.2: what is left to who runs the block: the last operation is an IGuest of the word; the state is the one ahead of it.
func TestGuests(t *testing.T) {
	seen := map[int]int{}
	r := rand.New(rand.NewSource(173))
	for _, i := range samples(60) {
		word := wordOf(t, i)
		for el := range 2 {
			b := lifted(t, 64, el, nop, word)
			last := b.Ops[len(b.Ops)-1]
			if want := (api.Op{Kind: api.IGuest, Imm: uint64(word)}); (last == want) != isGuest(i) {
				t.Fatalf("%+v: %+v", i, last)
			}
			if !isGuest(i) {
				continue
			}
			seen[i.Op]++
			c := anyCore(r, el, 64)
			d := byRun(t, b, c, nil)
			if c.PC = 68; !d.guest || d.word != word || d.core != c || d.wants != nil || d.faulted {
				t.Fatalf("%+v: %+v", i, d)
			}
		}
	}
	if len(seen) != 13 {
		t.Error(seen)
	}
	for imm := range 6 {
		b := lifted(t, 64, 1, wordOf(t, api.Insn{Op: api.Hint, Imm: imm}))
		if is := b.Ops[len(b.Ops)-1].Kind == api.IGuest; is != (imm >= 2) {
			t.Error("hint", imm, b)
		}
	}
	for imm := 1; imm <= 3; imm++ {
		for sub := range 2 {
			b := lifted(t, 64, 1, wordOf(t, api.Insn{Op: api.Dmb, Sub: sub, Imm: imm}))
			if is := b.Ops[len(b.Ops)-1].Kind == api.IGuest; is != (sub == 1) {
				t.Error("dmb", sub, imm, b)
			}
		}
	}
}

// P17.2: any 16 instructions have room: each one, 16 times, is a block that is right.
func TestRoom(t *testing.T) {
	for _, i := range samples(100) {
		b := lifted(t, 64, 1, slices.Repeat(wordsOf(t, i), 16)...)
		if len(b.Ops) > api.MaxOps {
			t.Errorf("%+v: %d operations", i, len(b.Ops))
		}
	}
}

// P17.2: what each access and fence wants, written out; and what is done with what came of it.
func TestAccesses(t *testing.T) {
	c := api.Core{PC: 64, EL: 1, SP: [2]uint64{0x700, 0x800}}
	c.X[1], c.X[2], c.X[3] = 0x1000, 0x20, 77
	for _, row := range []struct {
		i    api.Insn
		want api.Want
		x    int // which register is set
	}{
		{api.Insn{Op: api.Ldr, Rn: 1, Imm: 32760}, api.Want{Kind: api.WLoad, Addr: 0x8FF8}, 0},
		{api.Insn{Op: api.Ldr, Rn: 31, Imm: 8}, api.Want{Kind: api.WLoad, Addr: 0x808}, 0},
		{api.Insn{Op: api.Ldr, Rn: 1, Rd: 1}, api.Want{Kind: api.WLoad, Addr: 0x1000}, 1},
		{api.Insn{Op: api.Ldr, Rn: 1, Rd: 31}, api.Want{Kind: api.WLoad, Addr: 0x1000}, 31},
		{api.Insn{Op: api.LdrReg, Rn: 1, Rm: 2}, api.Want{Kind: api.WLoad, Addr: 0x1020}, 0},
		{api.Insn{Op: api.LdrReg, Rn: 31, Rm: 2, Amount: 3}, api.Want{Kind: api.WLoad, Addr: 0x900}, 0},
		{api.Insn{Op: api.LdrReg, Rn: 1, Rm: 31, Amount: 3}, api.Want{Kind: api.WLoad, Addr: 0x1000}, 0},
		{api.Insn{Op: api.Ldar, Rn: 1}, api.Want{Kind: api.WLoad, Addr: 0x1000, Acq: api.Acq}, 0},
		{api.Insn{Op: api.Ldar, Rn: 31, Sub: 1}, api.Want{Kind: api.WLoad, Addr: 0x800, Acq: api.AcqPC}, 0},
		{api.Insn{Op: api.Ldxr, Rn: 1}, api.Want{Kind: api.WLoadEx, Addr: 0x1000}, 0},
		{api.Insn{Op: api.Ldxr, Rn: 31, Sub: 1}, api.Want{Kind: api.WLoadEx, Addr: 0x800, Acq: api.Acq}, 0},
		{api.Insn{Op: api.Str, Rd: 3, Rn: 1, Imm: 16}, api.Want{Kind: api.WStore, Addr: 0x1010, Value: 77}, 31},
		{api.Insn{Op: api.Str, Rd: 31, Rn: 31}, api.Want{Kind: api.WStore, Addr: 0x800}, 31},
		{api.Insn{Op: api.StrReg, Rd: 3, Rn: 1, Rm: 2, Amount: 3}, api.Want{Kind: api.WStore, Addr: 0x1100, Value: 77}, 31},
		{api.Insn{Op: api.StrReg, Rd: 3, Rn: 31, Rm: 2}, api.Want{Kind: api.WStore, Addr: 0x820, Value: 77}, 31},
		{api.Insn{Op: api.Stlr, Rd: 3, Rn: 1}, api.Want{Kind: api.WStore, Addr: 0x1000, Value: 77, Rel: true}, 31},
		{api.Insn{Op: api.Dmb, Imm: 1}, api.Want{Kind: api.WFence, Fence: api.FenceLd}, 31},
		{api.Insn{Op: api.Dmb, Imm: 2}, api.Want{Kind: api.WFence, Fence: api.FenceSt}, 31},
		{api.Insn{Op: api.Dmb, Imm: 3}, api.Want{Kind: api.WFence, Fence: api.FenceFull}, 31},
	} {
		d := byRun(t, lifted(t, 64, 1, wordOf(t, row.i)), c, []api.Got{{Value: 5, Ok: true}})
		after := c
		after.PC = 68
		if row.x < 31 {
			after.X[row.x] = 5
		}
		if len(d.wants) != 1 || d.wants[0] != row.want || d.states[0] != c || d.core != after || d.faulted || d.guest {
			t.Errorf("%+v: %+v", row.i, d)
		}
	}
	for sub := range 2 {
		for status, ok := range []bool{true, false} {
			i := api.Insn{Op: api.Stxr, Rd: 3, Rn: 1, Rm: 9, Sub: sub}
			d := byRun(t, lifted(t, 64, 1, wordOf(t, i)), c, []api.Got{{Value: 5, Ok: ok}})
			want := api.Want{Kind: api.WStoreEx, Addr: 0x1000, Value: 77, Rel: sub == 1}
			if len(d.wants) != 1 || d.wants[0] != want || d.core.X[9] != uint64(status) || d.core.PC != 68 {
				t.Errorf("%+v: %+v", i, d)
			}
		}
	}
}

// P17.2, P17.3: each access, of each address that is no multiple of 8: the run is left faulted, at the PC of the
// instruction, with the state ahead of it, and nothing is wanted; so with a fault that is told. What stands ahead has been done.
func TestFaults(t *testing.T) {
	for _, i := range []api.Insn{
		{Op: api.Ldr, Rn: 1}, {Op: api.LdrReg, Rn: 1, Rm: 31}, {Op: api.Ldar, Rn: 1}, {Op: api.Ldar, Rn: 1, Sub: 1}, {Op: api.Ldxr, Rn: 1}, {Op: api.Ldxr, Rn: 1, Sub: 1},
		{Op: api.Str, Rd: 3, Rn: 1}, {Op: api.StrReg, Rd: 3, Rn: 1, Rm: 31}, {Op: api.Stlr, Rd: 3, Rn: 1}, {Op: api.Stxr, Rd: 3, Rn: 1, Rm: 4}, {Op: api.Stxr, Rd: 3, Rn: 1, Rm: 4, Sub: 1},
	} {
		for _, rn := range []int{1, 31} {
			i.Rn = rn
			b := lifted(t, 64, 0, 0x91001421, 0x910017FF, wordOf(t, i), nop) // add x1, x1, #5; add sp, sp, #5
			for low := range uint64(8) {
				c := api.Core{PC: 64, SP: [2]uint64{0x100 + low, 0x200}}
				c.X[1] = 0x100 + low
				d := byRun(t, b, c, []api.Got{{Fault: api.Outside}})
				c.X[1], c.SP[0], c.PC = c.X[1]+5, c.SP[0]+5, 72
				if crooked := (low+5)%8 != 0; !d.faulted || d.core != c || (len(d.wants) == 0) != crooked {
					t.Errorf("%+v, low %d: %+v", i, low, d)
				}
			}
		}
	}
}

// P17.3: a run is faulted by itself just where sem wants an exception for an address, and wants nothing where it does.
func TestFaultsAsSem(t *testing.T) {
	r := rand.New(rand.NewSource(176))
	crooked, straight := 0, 0
	for _, i := range samples(100) {
		word := wordOf(t, i)
		for range 4 {
			c := anyCore(r, r.Intn(2), 64)
			want, _ := sem.Begin(c, word)
			d := byRun(t, lifted(t, 64, c.EL, word), c, []api.Got{{}})
			isTrap := want.Kind == api.WTrap && (want.Class == api.EcData || want.Class == api.EcData+1)
			if d.faulted != isTrap || want.Kind == api.WTrap && d.wants != nil {
				t.Fatalf("%+v: %+v, where sem wants %+v", i, d, want)
			}
			if isTrap {
				crooked++
			} else if d.wants != nil {
				straight++
			}
		}
	}
	if crooked < 500 || straight < 500 {
		t.Error(crooked, straight)
	}
}

// edges are numbers at which sums, shifts and quotients turn.
func edges() []uint64 {
	return []uint64{0, 1, 2, 3, 63, 64, 4095, 4096, 1<<32 - 1, 1<<63 - 2, math.MaxInt64, 1 << 63, 1<<63 + 1, math.MaxUint64 - 1, math.MaxUint64}
}

// P17.2: what takes two numbers, of all edges: sums and differences with their flags, what is logical, shifts, products, quotients.
func TestEdges(t *testing.T) {
	var words []uint32
	for _, flags := range []bool{false, true} {
		for _, minus := range []bool{false, true} {
			for k, amount := range []int{0, 0, 0, 1, 1, 1, 63, 63, 63} {
				words = append(words, wordsOf(t, api.Insn{Op: api.AddReg, Rn: 1, Rm: 2, Flags: flags, Minus: minus, Shift: k % 3, Amount: amount})...)
			}
		}
		for _, not := range []bool{false, true} {
			words = append(words, wordsOf(t, api.Insn{Op: api.LogReg, Rn: 1, Rm: 2, Flags: flags, Not: not})...)
		}
	}
	for sub := range 4 {
		words = append(words, wordsOf(t, api.Insn{Op: api.ShiftReg, Rn: 1, Rm: 2, Sub: sub}, api.Insn{Op: api.Div, Rn: 1, Rm: 2, Sub: sub % 2},
			api.Insn{Op: api.LogReg, Rn: 1, Rm: 2, Sub: sub % 3, Shift: 3, Amount: 1}, api.Insn{Op: api.Mul, Rn: 1, Rm: 2, Ra: 3, Minus: sub%2 == 0})...)
	}
	for _, word := range words {
		for _, a := range edges() {
			for _, b := range edges() {
				c := api.Core{PC: 64, EL: 1, N: a > b, Z: a > b, C: a < b, V: a < b}
				c.X[1], c.X[2], c.X[3] = a, b, 1000
				agree(t, []uint32{word}, c, nil)
			}
		}
	}
}

// P17.2: all conditions of all flags, of what chooses and of branches.
func TestConditions(t *testing.T) {
	for cond := range 16 {
		for nzcv := range 16 {
			c := api.Core{PC: 64, N: nzcv&8 != 0, Z: nzcv&4 != 0, C: nzcv&2 != 0, V: nzcv&1 != 0}
			c.X[1], c.X[2] = 5, math.MaxUint64-1
			agree(t, wordsOf(t, api.Insn{Op: api.BCond, Cond: cond, Imm: -8}), c, nil)
			for sub := range 4 {
				agree(t, wordsOf(t, api.Insn{Op: api.Sel, Cond: cond, Sub: sub, Rn: 1, Rm: 2}), c, nil)
				agree(t, wordsOf(t, api.Insn{Op: api.Sel, Cond: cond, Sub: sub, Rd: 2, Rn: 31, Rm: 2}), c, nil)
			}
		}
	}
}

// P17.2: all bit fields, with and without signs.
func TestBitfields(t *testing.T) {
	c := api.Core{PC: 64}
	c.X[1], c.X[2] = 0x9234567890ABCDE5, 0x6DCBA9876F54321A
	for immr := range 64 {
		for imms := range 64 {
			for _, sub := range []int{0, 2} {
				for rn := 1; rn <= 2; rn++ {
					agree(t, wordsOf(t, api.Insn{Op: api.Bitfield, Sub: sub, Rn: rn, Imm: immr, Imm2: imms}), c, nil)
				}
			}
		}
	}
}

// P17.2: branches, written out: done, and not done, where the block is left behind it; links; the PC wraps.
func TestBranches(t *testing.T) {
	for _, row := range []struct {
		i        api.Insn
		x        uint64 // of X1
		pc, left uint64
		link     bool
	}{
		{api.Insn{Op: api.B, Imm: -4}, 0, 0, math.MaxUint64 - 3, false},
		{api.Insn{Op: api.B, Imm: 8, Link: true}, 0, math.MaxUint64 - 3, 4, true},
		{api.Insn{Op: api.BCond, Cond: 0, Imm: 64}, 0, 64, 128, false},
		{api.Insn{Op: api.BCond, Cond: 1, Imm: 64}, 0, 64, 68, false},
		{api.Insn{Op: api.BCond, Cond: 15, Imm: -64}, 0, 64, 0, false},
		{api.Insn{Op: api.Cbz, Rd: 1, Imm: 64}, 0, 64, 128, false},
		{api.Insn{Op: api.Cbz, Rd: 1, Imm: 64}, 1 << 63, 64, 68, false},
		{api.Insn{Op: api.Cbz, Rd: 1, Imm: 64, Not: true}, 1 << 63, 64, 128, false},
		{api.Insn{Op: api.Cbz, Rd: 1, Imm: 64, Not: true}, 0, math.MaxUint64 - 3, 0, false},
		{api.Insn{Op: api.Cbz, Rd: 31, Imm: 64}, 7, 64, 128, false},
		{api.Insn{Op: api.Tbz, Rd: 1, Amount: 63, Imm: 64}, 1<<63 - 1, 64, 128, false},
		{api.Insn{Op: api.Tbz, Rd: 1, Amount: 63, Imm: 64}, 1 << 63, 64, 68, false},
		{api.Insn{Op: api.Tbz, Rd: 1, Amount: 1, Imm: 64, Not: true}, 2, 64, 128, false},
		{api.Insn{Op: api.Tbz, Rd: 1, Amount: 1, Imm: 64, Not: true}, 5, 64, 68, false},
		{api.Insn{Op: api.Br, Rn: 1}, 0x1003, 64, 0x1003, false},
		{api.Insn{Op: api.Br, Rn: 1, Sub: 2}, 0x1000, 64, 0x1000, false},
		{api.Insn{Op: api.Br, Rn: 1, Sub: 1}, 0x1000, 64, 0x1000, true},
		{api.Insn{Op: api.Br, Rn: 30, Sub: 1}, 0, 64, 0x99, true},
		{api.Insn{Op: api.Br, Rn: 31}, 7, 64, 0, false},
	} {
		c := api.Core{PC: row.pc, Z: true}
		c.X[1], c.X[30] = row.x, 0x99
		want := c
		want.PC = row.left
		if row.link {
			want.X[30] = row.pc + 4
		}
		b, err := lift.One(row.pc, 0, wordOf(t, row.i))
		if err != api.OK {
			t.Fatal(err)
		}
		if d := byRun(t, b, c, nil); d.core != want || d.faulted || d.guest {
			t.Errorf("%+v: %+v", row.i, d)
		}
	}
}

// P17.2: addresses of the PC are those of their own instruction, wherever it stands in its block.
func TestAddressesOfThePC(t *testing.T) {
	for ahead := range 15 {
		c := api.Core{PC: 0x1FE0}
		words := make([]uint32, 0, 16)
		for range ahead {
			words = append(words, nop)
		}
		for sub := range 2 {
			agree(t, append(words, wordOf(t, api.Insn{Op: api.Adr, Sub: sub, Rd: 1, Imm: 8192}), wordOf(t, api.Insn{Op: api.B, Link: true, Imm: -4})), c, nil)
		}
	}
}

// P17.2: the block is right, and says where it is from, at both levels; a level's own stack pointer.
func TestLevels(t *testing.T) {
	for el := range 2 {
		c := api.Core{PC: 64, EL: el, SP: [2]uint64{0x500, 0x900}}
		b := lifted(t, 64, el, 0x910043FF) // add sp, sp, #16
		d := byRun(t, b, c, nil)
		c.SP[el] += 16
		if c.PC = 68; b.EL != el || d.core != c {
			t.Error(el, d)
		}
		c.EL = 1 - el
		if _, err := ir.New(b, c); err != api.ErrArg {
			t.Error("a state of another level:", err)
		}
	}
}
