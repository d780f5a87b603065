package order_test

import (
	"maps"
	"math/rand"
	"slices"
	"testing"

	"understudy/api"
	"understudy/code"
	"understudy/dead"
	"understudy/fold"
	"understudy/ir"
	"understudy/lift"
	"understudy/order"
)

// memory is one that no other core writes; some addresses have a fault.
type memory struct {
	words    map[uint64]uint64
	faulty   func(addr uint64) bool
	mark     uint64
	isMarked bool
}

func (m *memory) answer(w api.Want) api.Got {
	if w.Kind == api.WFence {
		return api.Got{}
	}
	if m.faulty(w.Addr) {
		return api.Got{Fault: api.Outside}
	}
	switch w.Kind {
	case api.WLoadEx:
		m.mark, m.isMarked = w.Addr, true
	case api.WStoreEx:
		ok := m.isMarked && m.mark == w.Addr
		if m.isMarked = false; ok {
			m.words[w.Addr] = w.Value
		}
		return api.Got{Ok: ok}
	case api.WStore:
		m.words[w.Addr] = w.Value
		return api.Got{}
	}
	return api.Got{Value: m.words[w.Addr]}
}

// deeds are how a run left a block, with the memory of then, and how often what was wanted.
type deeds struct {
	core    api.Core
	word    uint32
	guest   bool
	faulted bool
	words   map[uint64]uint64
	wants   map[int]int
}

func byRun(t *testing.T, b api.Block, c api.Core, words map[uint64]uint64, faulty func(uint64) bool) deeds {
	t.Helper()
	r, err := ir.New(b, c)
	if err != api.OK {
		t.Fatalf("%v of %+v", err, b)
	}
	m := memory{words: maps.Clone(words), faulty: faulty}
	d := deeds{wants: map[int]int{}}
	for w, waits := r.Next(); waits; w, waits = r.Next() {
		d.wants[w.Kind]++
		if err := r.Take(m.answer(w)); err != api.OK {
			t.Fatal(err)
		}
	}
	d.core, d.faulted, d.words = r.Core(), r.Faulted(), m.words
	d.word, d.guest = r.Guest()
	return d
}

// isSame is P20.5's: the same memory, the same state, the same way, the same word.
func isSame(a, b deeds) bool {
	return a.core == b.core && a.word == b.word && a.guest == b.guest && a.faulted == b.faulted && maps.Equal(a.words, b.words)
}

func never(uint64) bool { return false }

// doSame holds what each call tells of a block against it, on some states from which that is run to its end without faults; it tells how many these are.
func doSame(t *testing.T, b api.Block, words map[uint64]uint64, states ...api.Core) int {
	t.Helper()
	var all []deeds
	for _, c := range states {
		all = append(all, byRun(t, b, c, words, never))
	}
	many := 0
	for _, p := range passes() {
		x := p.told(t, b)
		for k, was := range all {
			if was.faulted {
				continue
			}
			many++
			if is := byRun(t, x, states[k], words, never); !isSame(was, is) || isMore(was, is) {
				t.Fatalf("%s of %+v:\n%+v, not\n%+v\n%s\nof\n%s", p.name, states[k], is, was, text(x), text(b))
			}
		}
	}
	return many / len(passes())
}

// isMore tells whether something was wanted more often.
func isMore(was, is deeds) bool {
	for kind, many := range is.wants {
		if many > was.wants[kind] {
			return true
		}
	}
	return false
}

// core is a right state of a level, of small multiples of 8.
func (c chance) core(el int, pc uint64) api.Core {
	flag := func() bool { return c.Intn(2) == 0 }
	out := api.Core{SP: [2]uint64{8 * uint64(c.Intn(4)), 8 * uint64(c.Intn(4))}, PC: pc, N: flag(), Z: flag(), C: flag(), V: flag(), EL: el, Mask: flag(), Vbar: 0x800, Id: c.Intn(8), Event: flag()}
	for k := range out.X {
		out.X[k] = 8 * uint64(c.Intn(5))
	}
	return out
}

// memory is one of small multiples of 8, so that what is loaded is an address often.
func (c chance) memory() map[uint64]uint64 {
	out := map[uint64]uint64{}
	for k := range uint64(16) {
		out[8*k] = 8 * uint64(c.Intn(16))
	}
	return out
}

// P20.5: blocks by chance leave the same memory and the same state.
func TestSameByChance(t *testing.T) {
	many := 0
	eachByChance(2051, func(c chance, b api.Block) {
		many += doSame(t, b, c.memory(), c.core(b.EL, b.PC), c.core(b.EL, b.PC))
	})
	if many < 6000 {
		t.Error(many)
	}
}

// P20.1 to P20.5: all blocks of up to four small operations: of v, v + 8 and another value, with all that stands between.
func TestAllSmallBlocks(t *testing.T) {
	head := []api.Op{at(64), getX(1), number(8), sum(1, 2), getX(2)}
	those := []api.Op{
		load(1, 0), load(3, 0), load(4, 0), store(1, 2, 0), store(1, 4, 0), store(3, 4, 0), store(4, 2, 0),
		load(1, api.OAcq), store(1, 1, api.ORel), fence(api.FenceLd), fence(api.FenceSt), at(68), setX(2, 1), exitIf(4, 4),
	}
	states := []api.Core{{EL: 1, PC: 64}, {EL: 1, PC: 64}, {EL: 1, PC: 64}}
	states[0].X[1], states[1].X[1], states[1].X[2], states[2].X[2] = 8, 8, 16, 8
	words := map[uint64]uint64{0: 8, 8: 16, 16: 32}
	many := 0
	var more func(ops []api.Op, left int)
	more = func(ops []api.Op, left int) {
		last := len(ops) - 1 // what the last load told is seen, if there was one
		b := api.Block{PC: 64, Words: 2, EL: 1, Ops: append(ops[:last+1:last+1], exit(72))}
		if ops[last].Kind == api.ILoad {
			b.Ops = append(ops[:last+1:last+1], setX(3, last), exit(72))
		}
		many++
		holdsMay(t, b)
		if doSame(t, b, words, states...) != len(states) {
			t.Fatal(text(b))
		}
		if left == 0 {
			return
		}
		for _, o := range those {
			more(append(ops[:last+1:last+1], o), left-1)
		}
	}
	more(head, 4)
	if many < 40000 {
		t.Error(many)
	}
}

// part is what stands between two that nothing moves across, and the one behind it.
type part struct {
	loads, stores int // plain ones
	end           api.Op
}

// parts of a block: fences between which there is no access and no exit are one.
func parts(b api.Block) []part {
	out := []part{{}}
	for _, o := range b.Ops {
		now := &out[len(out)-1]
		switch {
		case isPlain(o, api.ILoad):
			now.loads++
		case isPlain(o, api.IStore):
			now.stores++
		case isAccess(o) || isOf(o, api.IFence, api.IExitIf, api.IExit, api.IExitTo, api.IGuest):
			o.A, o.B = 0, 0
			if len(out) > 1 && now.loads+now.stores == 0 && o.Kind == api.IFence && out[len(out)-2].end.Kind == api.IFence {
				out[len(out)-2].end.R |= o.R
				continue
			}
			now.end = o
			out = append(out, part{})
		}
	}
	return out
}

// holdsParts asks that all that is not plain is there, in its order, and nothing plain has come to another part; of fold's block, as
// an exit that is decided takes what is behind it.
func holdsParts(t *testing.T, b api.Block) {
	t.Helper()
	simple, err := fold.Block(b)
	if err != api.OK {
		t.Fatal(err)
	}
	for _, p := range passes() {
		from := b
		if p.name == "All" {
			from = simple
		}
		x := p.told(t, from)
		isLess := func(was, is part) bool {
			return was.end == is.end && (was == is || p.name != "Merge" && p.name != "Move" && is.loads <= was.loads && is.stores <= was.stores)
		}
		if !slices.EqualFunc(parts(from), parts(x), isLess) {
			t.Fatalf("%s:\n%+v, not\n%+v\n%s\nof\n%s", p.name, parts(x), parts(from), text(x), text(from))
		}
		if count(x) > count(from) || len(x.Ops) > len(from.Ops) {
			t.Fatalf("%s:\n%s\nof\n%s", p.name, text(x), text(from))
		}
	}
}

// count is how many accesses and fences there are.
func count(b api.Block) int {
	return len(slices.DeleteFunc(slices.Clone(b.Ops), func(o api.Op) bool { return !isAccess(o) && o.Kind != api.IFence }))
}

// P20.5: what is not plain is all there, in its order; what is plain stays between the same ones of these, fences and exits.
func TestPartsByChance(t *testing.T) {
	eachByChance(2052, func(_ chance, b api.Block) { holdsParts(t, b) })
}

// words are of a program on few registers and addresses, without branches but at its end.
func (c chance) words(t *testing.T, many int) []uint32 {
	t.Helper()
	var out []uint32
	for range many {
		d, n, m := c.Intn(4), 1+c.Intn(2), 1+c.Intn(3)
		memory := []api.Insn{
			{Op: api.Ldr, Rd: d, Rn: n, Imm: 8 * c.Intn(3)}, {Op: api.Str, Rd: d, Rn: n, Imm: 8 * c.Intn(3)},
			{Op: api.Ldr, Rd: 3 * c.Intn(2), Rn: 1, Imm: 8 * c.Intn(2)}, {Op: api.Str, Rd: d, Rn: 1, Imm: 8 * c.Intn(2)},
			{Op: api.Ldr, Rd: 0, Rn: n, Imm: 8 * c.Intn(3)}, {Op: api.Str, Rd: 0, Rn: n, Imm: 8 * c.Intn(3)},
		}
		others := []api.Insn{
			{Op: api.LdrReg, Rd: d, Rn: n, Rm: m}, {Op: api.StrReg, Rd: d, Rn: n, Rm: m}, {Op: api.Ldar, Sub: c.Intn(2), Rd: d, Rn: n}, {Op: api.Stlr, Rd: d, Rn: n},
			{Op: api.Ldxr, Sub: c.Intn(2), Rd: d, Rn: n}, {Op: api.Stxr, Sub: c.Intn(2), Rd: d, Rn: n, Rm: 4}, {Op: api.Dmb, Imm: 1 + c.Intn(3)}, {Op: api.Dmb, Imm: 1 + c.Intn(3)},
			{Op: api.AddImm, Rd: d, Rn: n, Imm: []int{8, 16, 1}[c.Intn(3)], Minus: c.Intn(2) == 0, Flags: c.Intn(2) == 0}, {Op: api.MovWide, Sub: 2, Rd: d, Imm: 8 * c.Intn(3)}, {Op: api.Hint},
		}
		if c.Intn(40) == 0 {
			others = []api.Insn{{Op: api.Cbz, Rd: d, Imm: 32}, {Op: api.BCond, Cond: c.Intn(14), Imm: -16}, {Op: api.Svc, Imm: 5}, {Op: api.Br, Sub: 2, Rn: 30}}
		}
		these := append(memory, memory...)[:len(memory)*(1+c.Intn(2))]
		if c.Intn(3) == 0 {
			these = others
		}
		word, err := code.Encode(these[c.Intn(len(these))])
		if err != api.OK {
			t.Fatal(err, these)
		}
		out = append(out, word)
	}
	return out
}

// lifted is the block of some words, and nothing behind them.
func lifted(t *testing.T, pc uint64, el int, words []uint32) api.Block {
	t.Helper()
	b, err := lift.Block(pc, el, func(addr uint64) (uint32, bool) {
		if k := (addr - pc) / 4; k < uint64(len(words)) {
			return words[k], true
		}
		return 0, false
	})
	if err != api.OK {
		t.Fatalf("%x: %v", words, err)
	}
	return b
}

// numbered is a block in which what is reckoned twice from the same values is reckoned once, so that addresses are the same.
func numbered(b api.Block) api.Block {
	places, first := make([]int, len(b.Ops)), map[api.Op]int{}
	var ops []api.Op
	for k, o := range b.Ops {
		o.A, o.B = places[o.A], places[o.B]
		place, is := first[o]
		if places[k] = place; is {
			continue
		}
		places[k] = len(ops)
		if o.Kind == api.IConst || o.Kind == api.IAlu {
			first[o] = len(ops)
		}
		ops = append(ops, o)
	}
	b.Ops = ops
	return b
}

// passed is what some passes, by chance, one behind the other, make of a block, and their names.
func (c chance) passed(t *testing.T, b api.Block) (api.Block, []string) {
	t.Helper()
	all := []pass{{"fold", fold.Block, nil}, {"dead", dead.Block, nil}, {"Merge", order.Merge, nil}, {"Loads", order.Loads, nil}, {"Move", order.Move, nil}, {"All", order.All, nil}}
	var names []string
	if c.Intn(4) > 0 {
		b, _ = fold.Block(b)
		b, names = numbered(b), []string{"fold", "numbered"}
	}
	for range 1 + c.Intn(5) {
		p := all[c.Intn(len(all))]
		x, err := p.call(b)
		if err != api.OK {
			t.Fatal(err)
		}
		b, names = x, append(names, p.name)
	}
	return b, names
}

// P20.5: of blocks that lift told, and that passes went over: without a fault the same; with one they are left at the same instruction or an
// earlier one, with the memory and the state that there are ahead of that instruction.
func TestFaultsOfLifted(t *testing.T) {
	r := rand.New(rand.NewSource(2053))
	whole, same, earlier, less := 0, 0, 0, 0
	for range 20000 {
		c := chance{r, 3, 4}
		pc, el := 64+4*uint64(c.Intn(9)), c.Intn(2)
		words := c.words(t, 1+c.Intn(16))
		b := lifted(t, pc, el, words)
		x, names := c.passed(t, b)
		if count(x) < count(b) {
			less++
		}
		state, start := c.core(el, pc), c.memory()
		if c.Intn(8) == 0 {
			state.X[1+c.Intn(3)] += 4
		}
		bad := 8 * uint64(c.Intn(8))
		faulty := func(addr uint64) bool { return addr == bad || addr == bad+8 || addr == bad-24 }
		was, is := byRun(t, b, state, start, faulty), byRun(t, x, state, start, faulty)
		if !was.faulted {
			if whole++; !isSame(was, is) {
				t.Fatalf("%v of %+v:\n%+v, not\n%+v\n%s\nof\n%s", names, state, is, was, text(x), text(b))
			}
			continue
		}
		ahead := deeds{core: state, words: start}
		if many := int(is.core.PC-pc) / 4; many > 0 && many < b.Words {
			ahead = byRun(t, lifted(t, pc, el, words[:many]), state, start, faulty)
		}
		ahead.faulted = true
		if is.core.PC > was.core.PC || !isSame(ahead, is) {
			t.Fatalf("%v of %+v:\n%+v, not\n%+v (and %#x)\n%s\nof\n%s", names, state, is, ahead, was.core.PC, text(x), text(b))
		}
		if is.core.PC < was.core.PC {
			earlier++
		} else {
			same++
		}
	}
	if whole < 4000 || same < 5000 || earlier < 200 || less < 3500 {
		t.Error(whole, same, earlier, less)
	}
}

// P20.5: where a load or a store that was moved faults, all written out: STR X0, [X1]; LDR X2, [X1, 8]; and two STRs to one address.
func TestFaultsEarlier(t *testing.T) {
	words := []uint32{0xF9000020, 0xF9400422, 0xF9000023}
	b, err := order.All(lifted(t, 64, 1, words))
	if err != api.OK {
		t.Fatal(err)
	}
	c := api.Core{EL: 1, PC: 64}
	c.X[0], c.X[1], c.X[3] = 5, 8, 6
	start := map[uint64]uint64{8: 1, 16: 2}
	for _, k := range []struct {
		bad, pc, x2, at8 uint64
	}{{0, 76, 2, 6}, {16, 64, 0, 1}, {8, 64, 0, 1}} {
		d := byRun(t, b, c, start, func(addr uint64) bool { return addr == k.bad })
		if d.faulted != (k.bad != 0) || d.core.PC != k.pc || d.core.X[2] != k.x2 || d.words[8] != k.at8 {
			t.Error(k, d)
		}
	}
	two, err := fold.Block(lifted(t, 64, 1, []uint32{0xF9000020, 0xF9000023}))
	if err != api.OK {
		t.Fatal(err)
	}
	over, err := order.All(numbered(two))
	if err != api.OK || count(over) != 1 {
		t.Fatal(err, text(over))
	}
	if d := byRun(t, over, c, start, never); d.core.PC != 72 || d.words[8] != 6 || d.faulted {
		t.Error(d)
	}
	if d := byRun(t, over, c, start, func(addr uint64) bool { return addr == 8 }); d.core != c || !d.faulted || d.words[8] != 1 {
		t.Error(d)
	}
}
