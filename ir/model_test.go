package ir_test

import (
	"math"
	"math/rand"
	"slices"
	"strings"

	"understudy/alu"
	"understudy/api"
)

// row is what the chapter's table says of a kind: how it is told, which fields it has, whether it defines a value, and whether a block may be left there.
type row struct {
	kind            int
	name, fields    string
	defines, leaves bool
}

func table() []row {
	return []row{
		{api.IConst, "const", "Imm", true, false},
		{api.IGetX, "getx", "R", true, false},
		{api.ISetX, "setx", "R A", false, false},
		{api.IGetSP, "getsp", "", true, false},
		{api.ISetSP, "setsp", "A", false, false},
		{api.IGetF, "getf", "R", true, false},
		{api.ISetF, "setf", "R A", false, false},
		{api.IAlu, "alu", "R A B", true, false},
		{api.ILoad, "load", "A Order", true, true},
		{api.IStore, "store", "A B Order", false, true},
		{api.ILoadEx, "loadex", "A Order", true, true},
		{api.IStoreEx, "storeex", "A B Order", true, true},
		{api.IFence, "fence", "R", false, false},
		{api.IAt, "at", "Imm", false, false},
		{api.IExitIf, "exitif", "A Imm", false, true},
		{api.IExit, "exit", "Imm", false, true},
		{api.IExitTo, "exitto", "A", false, true},
		{api.IGuest, "guest", "Imm", false, true},
	}
}

// rows are the table by kind.
func rows() map[int]row {
	out := map[int]row{}
	for _, r := range table() {
		out[r.kind] = r
	}
	return out
}

func (r row) has(field string) bool {
	return slices.Contains(strings.Fields(r.fields), field)
}

// odd are numbers that are no kind, no place, no level and no field, some of which look like one in their lowest bits.
func odd() []int {
	return []int{-1, -2, -14, -16, 19, 20, 32, 513, 1 << 8, 1<<8 + 1, 1<<16 + 14, 1<<31 + 2, 1 << 32, 1<<32 + 1, 1<<32 + 14, 1<<62 + 3, -1 << 32, -1<<32 + 1, math.MaxInt, math.MinInt, math.MinInt + 1}
}

func at(pc uint64) api.Op       { return api.Op{Kind: api.IAt, Imm: pc} }
func number(n uint64) api.Op    { return api.Op{Kind: api.IConst, Imm: n} }
func getX(r int) api.Op         { return api.Op{Kind: api.IGetX, R: r} }
func setX(r, a int) api.Op      { return api.Op{Kind: api.ISetX, R: r, A: a} }
func getSP() api.Op             { return api.Op{Kind: api.IGetSP} }
func setSP(a int) api.Op        { return api.Op{Kind: api.ISetSP, A: a} }
func getF(r int) api.Op         { return api.Op{Kind: api.IGetF, R: r} }
func setF(r, a int) api.Op      { return api.Op{Kind: api.ISetF, R: r, A: a} }
func reckon(r, a, b int) api.Op { return api.Op{Kind: api.IAlu, R: r, A: a, B: b} }
func load(a, order int) api.Op  { return api.Op{Kind: api.ILoad, A: a, Order: order} }
func loadEx(a, order int) api.Op {
	return api.Op{Kind: api.ILoadEx, A: a, Order: order}
}
func store(a, b, order int) api.Op {
	return api.Op{Kind: api.IStore, A: a, B: b, Order: order}
}
func storeEx(a, b, order int) api.Op {
	return api.Op{Kind: api.IStoreEx, A: a, B: b, Order: order}
}
func fence(r int) api.Op             { return api.Op{Kind: api.IFence, R: r} }
func exitIf(a int, pc uint64) api.Op { return api.Op{Kind: api.IExitIf, A: a, Imm: pc} }
func exit(pc uint64) api.Op          { return api.Op{Kind: api.IExit, Imm: pc} }
func exitTo(a int) api.Op            { return api.Op{Kind: api.IExitTo, A: a} }
func guest(word uint64) api.Op       { return api.Op{Kind: api.IGuest, Imm: word} }

// block is one of the level 1 at 64, with an IAt ahead of the operations.
func block(ops ...api.Op) api.Block {
	return api.Block{PC: 64, Words: 1, EL: 1, Ops: append([]api.Op{at(64)}, ops...)}
}

// example is the chapter's: LDR X0, [X1] at 64.
func example() api.Block {
	return block(getX(1), number(0), reckon(api.AAdd, 1, 2), load(3, api.OPlain), setX(0, 4), exit(68))
}

// full has something else in each field, and no number that two of them share; its addresses are multiples of 8.
func full() api.Core {
	c := api.Core{
		SP: [2]uint64{0x5000000000000008, 0x5000000000000010}, PC: 0x6000000000000003,
		N: true, C: true, EL: 1, Mask: true,
		Spsr: 0x7000000000000004, Elr: 0x8000000000000005, Esr: 0x9000000000000006,
		Far: 0xA000000000000007, Vbar: 0xB000000000000FFF, Tpidr: 0xC000000000000009,
		Id: 5, Wait: 2, Event: true,
	}
	for r := range c.X {
		c.X[r] = 0xD000000000000100 + 8*uint64(r)
	}
	return c
}

// mayBe tells whether the chapter's table lets an operation be at a place, by what is ahead of it.
func mayBe(o api.Op, ahead []api.Op, known map[int]row) bool {
	r, ok := known[o.Kind]
	if !ok {
		return false
	}
	for field, value := range map[string]int{"R": o.R, "A": o.A, "B": o.B, "Order": o.Order} {
		if !r.has(field) && value != 0 {
			return false
		}
	}
	if !r.has("Imm") && o.Imm != 0 {
		return false
	}
	for field, place := range map[string]int{"A": o.A, "B": o.B} {
		if r.has(field) && (place < 0 || place >= len(ahead) || !known[ahead[place].Kind].defines) {
			return false
		}
	}
	return mayHave(o)
}

// mayHave asks of the numbers that the table names.
func mayHave(o api.Op) bool {
	among := func(n int, those ...int) bool { return slices.Contains(those, n) }
	switch o.Kind {
	case api.IGetX, api.ISetX:
		return 0 <= o.R && o.R < 31
	case api.IGetF, api.ISetF:
		return among(o.R, 0, 1, 2, 3)
	case api.IAlu:
		return 0 < o.R && o.R < 16
	case api.IFence:
		return among(o.R, 13, 10, 15)
	case api.ILoad:
		return among(o.Order, 0, 1, 2)
	case api.ILoadEx:
		return among(o.Order, 0, 2)
	case api.IStore, api.IStoreEx:
		return among(o.Order, 0, 4)
	case api.IAt:
		return o.Imm&3 == 0
	case api.IGuest:
		return o.Imm>>32 == 0
	}
	return true
}

// isRight is P16.1 in its words.
func isRight(b api.Block) bool {
	known := rows()
	if b.PC&3 != 0 || b.Words < 1 || b.Words > 16 || b.EL < 0 || b.EL > 1 || len(b.Ops) < 1 || len(b.Ops) > 512 {
		return false
	}
	if b.Ops[0].Kind != api.IAt || b.Ops[0].Imm != b.PC {
		return false
	}
	for k, o := range b.Ops {
		ends := o.Kind == api.IExit || o.Kind == api.IExitTo || o.Kind == api.IGuest
		if ends != (k+1 == len(b.Ops)) || !mayBe(o, b.Ops[:k], known) {
			return false
		}
	}
	return true
}

// moment is what a run shows: what is wanted, and the state at that time.
type moment struct {
	want api.Want
	core api.Core
}

// end is how a block was left.
type end struct {
	core    api.Core
	word    uint32
	guest   bool
	faulted bool
}

// play is P16.2 in its words, of a right block: it tells each moment to answer, which tells what came of it.
func play(b api.Block, c api.Core, answer func(moment) api.Got) end {
	values := map[int]uint64{}
	flags := []*bool{&c.N, &c.Z, &c.C, &c.V}
	for k, o := range b.Ops {
		va, vb := values[o.A], values[o.B]
		switch o.Kind {
		case api.IConst:
			values[k] = o.Imm
		case api.IGetX:
			values[k] = c.X[o.R]
		case api.ISetX:
			c.X[o.R] = va
		case api.IGetSP:
			values[k] = c.SP[b.EL]
		case api.ISetSP:
			c.SP[b.EL] = va
		case api.IGetF:
			values[k] = map[bool]uint64{true: 1}[*flags[o.R]]
		case api.ISetF:
			*flags[o.R] = va > 0
		case api.IAlu:
			values[k], _ = alu.Reckon(o.R, va, vb)
		case api.IAt:
			c.PC = o.Imm
		case api.IFence:
			answer(moment{api.Want{Kind: api.WFence, Fence: o.R}, c})
		case api.ILoad, api.ILoadEx, api.IStore, api.IStoreEx:
			if va&7 != 0 {
				return end{core: c, faulted: true}
			}
			got := answer(moment{wanted(o, va, vb), c})
			if got.Fault != 0 {
				return end{core: c, faulted: true}
			}
			values[k] = got.Value
			if o.Kind == api.IStoreEx {
				values[k] = map[bool]uint64{false: 1}[got.Ok]
			}
		case api.IExitIf, api.IExit:
			if o.Kind == api.IExit || va > 0 {
				c.PC = o.Imm
				return end{core: c}
			}
		case api.IExitTo:
			c.PC = va
			return end{core: c}
		case api.IGuest:
			return end{core: c, word: uint32(o.Imm), guest: true}
		}
	}
	panic("a block that has no end")
}

// wanted is what an access wants.
func wanted(o api.Op, addr, value uint64) api.Want {
	w := api.Want{Addr: addr}
	switch o.Kind {
	case api.ILoad:
		w.Kind, w.Acq = 1, o.Order
	case api.ILoadEx:
		w.Kind, w.Acq = 3, o.Order
	case api.IStore:
		w.Kind, w.Value, w.Rel = 2, value, o.Order == 4
	case api.IStoreEx:
		w.Kind, w.Value, w.Rel = 4, value, o.Order == 4
	}
	return w
}

// byChance is a right block of as many operations, most of whose addresses are multiples of 8.
func byChance(r *rand.Rand, many int) api.Block {
	b := api.Block{PC: r.Uint64() &^ 3, Words: 1 + r.Intn(16), EL: r.Intn(2)}
	b.Ops = append(b.Ops, at(b.PC))
	var values []int
	known := rows()
	pick := func() int { return values[r.Intn(len(values))] }
	for len(b.Ops) < many-1 {
		o := simple(r)
		if len(values) > 0 && r.Intn(4) > 0 {
			o = using(r, pick)
		}
		if known[o.Kind].defines {
			values = append(values, len(b.Ops))
		}
		b.Ops = append(b.Ops, o)
	}
	last := []api.Op{exit(r.Uint64()), guest(r.Uint64() >> 32)}
	if len(values) > 0 {
		last = append(last, exitTo(pick()))
	}
	b.Ops = append(b.Ops, last[r.Intn(len(last))])
	return b
}

// simple is an operation that uses nothing.
func simple(r *rand.Rand) api.Op {
	fences := []int{api.FenceLd, api.FenceSt, api.FenceFull}
	those := []api.Op{number(8 * uint64(r.Intn(8))), number(r.Uint64() >> r.Intn(64)), getX(r.Intn(31)), getX(r.Intn(4)), getSP(), getF(r.Intn(4)), fence(fences[r.Intn(3)]), at(4 * uint64(r.Intn(99)))}
	return those[r.Intn(len(those))]
}

// using is an operation that uses something.
func using(r *rand.Rand, pick func() int) api.Op {
	those := []api.Op{
		setX(r.Intn(31), pick()), setX(r.Intn(4), pick()), setSP(pick()), setF(r.Intn(4), pick()), reckon(1+r.Intn(15), pick(), pick()), reckon(1+r.Intn(6), pick(), pick()),
		load(pick(), r.Intn(3)), loadEx(pick(), 2*r.Intn(2)), store(pick(), pick(), 4*r.Intn(2)), storeEx(pick(), pick(), 4*r.Intn(2)),
	}
	if r.Intn(10) == 0 {
		return exitIf(pick(), r.Uint64())
	}
	return those[r.Intn(len(those))]
}

// anyCore is a state that is right, of a level.
func anyCore(r *rand.Rand, el int) api.Core {
	c := full()
	for k := range c.X {
		c.X[k] = 8 * uint64(r.Intn(4)*r.Intn(1000))
	}
	c.N, c.Z, c.C, c.V = r.Intn(2) == 0, r.Intn(2) == 0, r.Intn(2) == 0, r.Intn(2) == 0
	c.EL, c.Id, c.Wait, c.PC = el, r.Intn(8), r.Intn(3), r.Uint64()
	return c
}

// anyGot is what may come of an access or a fence: seldom a fault.
func anyGot(r *rand.Rand) api.Got {
	got := api.Got{Value: 8 * uint64(r.Intn(100)), Ok: r.Intn(2) == 0}
	if r.Intn(20) == 0 {
		got.Fault = []int{api.Outside, api.Denied, -1, math.MinInt, 1 << 32}[r.Intn(5)]
	}
	return got
}
