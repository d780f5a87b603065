package lower_test

import (
	"math"
	"math/rand"
	"slices"
	"strconv"
	"strings"

	"understudy/alu"
	"understudy/api"
)

// row is a kind, how it is told, and which fields it has, in the order in which they are told.
type row struct {
	kind         int
	name, fields string
}

func (r row) has(field string) bool { return slices.Contains(strings.Fields(r.fields), field) }

// operations are the table of chapter 16.
func operations() []row {
	return []row{
		{api.IConst, "const", "Imm"}, {api.IGetX, "getx", "R"}, {api.ISetX, "setx", "R A"}, {api.IGetSP, "getsp", ""}, {api.ISetSP, "setsp", "A"},
		{api.IGetF, "getf", "R"}, {api.ISetF, "setf", "R A"}, {api.IAlu, "alu", "R A B"}, {api.ILoad, "load", "A Order"}, {api.IStore, "store", "A B Order"},
		{api.ILoadEx, "loadex", "A Order"}, {api.IStoreEx, "storeex", "A B Order"}, {api.IFence, "fence", "R"}, {api.IAt, "at", "Imm"},
		{api.IExitIf, "exitif", "A Imm"}, {api.IExit, "exit", "Imm"}, {api.IExitTo, "exitto", "A"}, {api.IGuest, "guest", "Imm"},
	}
}

// micros are the chapter's table.
func micros() []row {
	return []row{
		{api.MConst, "const", "D Imm"}, {api.MMove, "move", "D A"}, {api.MFill, "fill", "D Imm"}, {api.MSpill, "spill", "A Imm"},
		{api.MGetX, "getx", "R D"}, {api.MSetX, "setx", "R A"}, {api.MGetSP, "getsp", "D"}, {api.MSetSP, "setsp", "A"}, {api.MGetF, "getf", "R D"}, {api.MSetF, "setf", "R A"},
		{api.MAlu, "alu", "R D A B"}, {api.MLoad, "load", "D A Order"}, {api.MStore, "store", "A B Order"}, {api.MLoadEx, "loadex", "D A Order"}, {api.MStoreEx, "storeex", "D A B Order"},
		{api.MFence, "fence", ""}, {api.MNote, "note", "R"}, {api.MAt, "at", "Imm"},
		{api.MExitIf, "exitif", "A Imm"}, {api.MExit, "exit", "Imm"}, {api.MExitTo, "exitto", "A"}, {api.MGuest, "guest", "Imm"},
	}
}

// parsed is the row of a line, and its numbers by the names of fields.
func parsed(table []row, line string) (row, map[string]uint64) {
	words := strings.Fields(line)
	r := table[slices.IndexFunc(table, func(r row) bool { return r.name == words[0] })]
	numbers := map[string]uint64{}
	for k, field := range strings.Fields(r.fields) {
		n, err := strconv.ParseUint(words[1+k], 10, 64)
		if err != nil {
			panic(line)
		}
		numbers[field] = n
	}
	if len(words) != 1+len(numbers) {
		panic(line)
	}
	return r, numbers
}

// op is a block's operation as chapter 16 tells it, without its place.
func op(line string) api.Op {
	r, n := parsed(operations(), line)
	return api.Op{Kind: r.kind, R: int(n["R"]), A: int(n["A"]), B: int(n["B"]), Order: int(n["Order"]), Imm: n["Imm"]}
}

// micro is a micro-operation as the chapter tells it.
func micro(line string) api.Micro {
	r, n := parsed(micros(), line)
	return api.Micro{Kind: r.kind, R: int(n["R"]), D: int(n["D"]), A: int(n["A"]), B: int(n["B"]), Order: int(n["Order"]), Imm: n["Imm"]}
}

func each[T any](one func(string) T, lines []string) []T {
	var out []T
	for _, line := range lines {
		out = append(out, one(line))
	}
	return out
}

// block is one of the level 1 at 64, with an IAt ahead of the lines.
func block(lines ...string) api.Block {
	return api.Block{PC: 64, Words: 1, EL: 1, Ops: each(op, append([]string{"at 64"}, lines...))}
}

// code is one of the level 1 at 64, with two slots, and an MAt ahead of the lines.
func code(lines ...string) api.Code {
	return api.Code{PC: 64, Words: 1, EL: 1, Slots: 2, Ops: each(micro, append([]string{"at 64"}, lines...))}
}

// example is chapter 16's: LDR X0, [X1] at 64.
func example() api.Block {
	return block("getx 1", "const 0", "alu 1 1 2", "load 3 0", "setx 0 4", "exit 68")
}

// odd are numbers that are no kind, no place, no level and no field, some of which look like one in their lowest bits.
func odd() []int {
	return []int{-1, -2, -14, -18, 23, 24, 32, 513, 4097, 1 << 8, 1<<8 + 1, 1<<16 + 18, 1<<31 + 2, 1 << 32, 1<<32 + 1, 1<<32 + 18, 1<<62 + 3, -1 << 32, -1<<32 + 1, math.MaxInt, math.MinInt, math.MinInt + 1}
}

// fieldsOf are an operation's fields by their names.
func fieldsOf(o *api.Micro) map[string]*int {
	return map[string]*int{"R": &o.R, "D": &o.D, "A": &o.A, "B": &o.B, "Order": &o.Order}
}

// have is what has been set: registers by their numbers, slots by theirs and 100 more.
type have map[int]bool

// mayBe is P21.1's last words: it tells whether an operation may be where that has been set, and adds what it sets.
func (h have) mayBe(o api.Micro, slots int, known map[int]row) bool {
	r, ok := known[o.Kind]
	if !ok || !r.has("Imm") && o.Imm != 0 {
		return false
	}
	for field, value := range fieldsOf(&o) {
		isRegister := field == "D" || field == "A" || field == "B"
		if !r.has(field) && *value != 0 || isRegister && (*value < 0 || *value > 7) {
			return false
		}
	}
	slot := 100 + int(o.Imm)
	switch {
	case !mayHave(o, slots), r.has("A") && !h[o.A], r.has("B") && !h[o.B], o.Kind == api.MFill && !h[slot]:
		return false
	}
	if r.has("D") {
		h[o.D] = true
	}
	if o.Kind == api.MSpill {
		h[slot] = true
	}
	return true
}

// mayHave asks of the numbers that the table names.
func mayHave(o api.Micro, slots int) bool {
	among := func(n int, those ...int) bool { return slices.Contains(those, n) }
	switch o.Kind {
	case api.MFill, api.MSpill:
		return slots > 0 && o.Imm <= uint64(slots-1)
	case api.MGetX, api.MSetX:
		return 0 <= o.R && o.R < 31
	case api.MGetF, api.MSetF:
		return among(o.R, 0, 1, 2, 3)
	case api.MAlu:
		return 0 < o.R && o.R < 16
	case api.MNote:
		return among(o.R, 13, 10, 15)
	case api.MLoad:
		return among(o.Order, 0, 1, 2)
	case api.MLoadEx:
		return among(o.Order, 0, 2)
	case api.MStore, api.MStoreEx:
		return among(o.Order, 0, 4)
	case api.MAt:
		return o.Imm&3 == 0
	case api.MGuest:
		return o.Imm>>32 == 0
	}
	return true
}

// isRight is P21.1 in its words.
func isRight(c api.Code) bool {
	if c.PC&3 != 0 || c.Words < 1 || c.Words > 16 || c.EL < 0 || c.EL > 1 || c.Slots < 0 || c.Slots > 512 || len(c.Ops) < 1 || len(c.Ops) > 4096 {
		return false
	}
	if c.Ops[0].Kind != api.MAt || c.Ops[0].Imm != c.PC {
		return false
	}
	known, h := map[int]row{}, have{}
	for _, r := range micros() {
		known[r.kind] = r
	}
	for k, o := range c.Ops {
		ends := o.Kind == api.MExit || o.Kind == api.MExitTo || o.Kind == api.MGuest
		if ends != (k+1 == len(c.Ops)) || !h.mayBe(o, c.Slots, known) {
			return false
		}
	}
	return true
}

// left is how a run ended.
type left struct {
	core    api.Core
	word    uint32
	guest   bool
	faulted bool
}

// play is a run of right micro-code, in the words of chapter 22: it tells what is wanted, and the state at that time, to answer, which tells what came of it.
func play(c api.Code, core api.Core, answer func(api.Want, api.Core) api.Got) left {
	var regs [8]uint64
	var slots [512]uint64
	flags := []*bool{&core.N, &core.Z, &core.C, &core.V}
	for _, o := range c.Ops {
		d, a, b := &regs[o.D], regs[o.A], regs[o.B]
		switch o.Kind {
		case api.MConst:
			*d = o.Imm
		case api.MMove:
			*d = a
		case api.MFill:
			*d = slots[o.Imm]
		case api.MSpill:
			slots[o.Imm] = a
		case api.MGetX:
			*d = core.X[o.R]
		case api.MSetX:
			core.X[o.R] = a
		case api.MGetSP:
			*d = core.SP[c.EL]
		case api.MSetSP:
			core.SP[c.EL] = a
		case api.MGetF:
			*d = map[bool]uint64{true: 1}[*flags[o.R]]
		case api.MSetF:
			*flags[o.R] = a > 0
		case api.MAlu:
			*d, _ = alu.Reckon(o.R, a, b)
		case api.MFence:
			answer(api.Want{Kind: api.WHost}, core)
		case api.MNote:
			answer(api.Want{Kind: api.WFence, Fence: o.R}, core)
		case api.MAt:
			core.PC = o.Imm
		case api.MExitIf, api.MExit:
			if o.Kind == api.MExit || a > 0 {
				core.PC = o.Imm
				return left{core: core}
			}
		case api.MExitTo:
			core.PC = a
			return left{core: core}
		case api.MGuest:
			return left{core: core, word: uint32(o.Imm), guest: true}
		default:
			if a&7 != 0 {
				return left{core: core, faulted: true}
			}
			got := answer(wanted(o, a, b), core)
			if got.Fault != 0 {
				return left{core: core, faulted: true}
			}
			if o.Kind == api.MLoad || o.Kind == api.MLoadEx {
				*d = got.Value
			}
			if o.Kind == api.MStoreEx {
				*d = map[bool]uint64{false: 1}[got.Ok]
			}
		}
	}
	panic("micro-code that has no end")
}

// wanted is what an access wants.
func wanted(o api.Micro, addr, value uint64) api.Want {
	switch o.Kind {
	case api.MLoad:
		return api.Want{Kind: api.WLoad, Addr: addr, Acq: []int{api.Plain, api.AcqPC, api.Acq}[o.Order]}
	case api.MLoadEx:
		return api.Want{Kind: api.WLoadEx, Addr: addr, Acq: map[int]int{api.OAcq: api.Acq}[o.Order]}
	case api.MStore:
		return api.Want{Kind: api.WStore, Addr: addr, Value: value, Rel: o.Order == api.ORel}
	}
	return api.Want{Kind: api.WStoreEx, Addr: addr, Value: value, Rel: o.Order == api.ORel}
}

// chance makes blocks, states, and what comes of what is wanted.
type chance struct {
	*rand.Rand
	near int // what is used is one of so many values that came last
	out  int // one of so many operations is an IExitIf
}

// block is a right one of as many operations; most of its addresses are multiples of 8.
func (c chance) block(many int) api.Block {
	b := api.Block{PC: c.Uint64() &^ 3, Words: 1 + c.Intn(16), EL: c.Intn(2)}
	b.Ops = append(b.Ops, api.Op{Kind: api.IAt, Imm: b.PC}, api.Op{Kind: api.IConst, Imm: c.number()})
	values, addresses := []int{1}, []int{1}
	for len(b.Ops) < many-1 {
		o := c.op(values, addresses)
		switch o.Kind {
		case api.IConst, api.IGetX, api.IGetSP, api.IGetF, api.IAlu, api.ILoad, api.ILoadEx, api.IStoreEx:
			values = append(values, len(b.Ops))
		}
		if o.Kind == api.IConst && o.Imm%8 == 0 || o.Kind == api.ILoad || o.Kind == api.ILoadEx {
			addresses = append(addresses, len(b.Ops))
		}
		b.Ops = append(b.Ops, o)
	}
	b.Ops = append(b.Ops, []api.Op{{Kind: api.IExit, Imm: c.Uint64()}, {Kind: api.IGuest, Imm: c.Uint64() >> 32}, {Kind: api.IExitTo, A: c.late(values)}}[c.Intn(3)])
	return b
}

func (c chance) late(values []int) int {
	if c.Intn(10) == 0 {
		return values[c.Intn(len(values))]
	}
	return values[len(values)-1-c.Intn(min(len(values), c.near))]
}

func (c chance) number() uint64 { return []uint64{8 * uint64(c.Intn(100)), c.Uint64() &^ 7}[c.Intn(2)] }

// op is an operation of any kind but those that end a block.
func (c chance) op(values, addresses []int) api.Op {
	rows := operations()[:14] // up to IAt
	o := api.Op{Kind: rows[c.Intn(len(rows))].kind}
	if c.Intn(3) == 0 {
		o.Kind = []int{api.IConst, api.IGetX, api.IAlu, api.ILoad}[c.Intn(4)]
	}
	if c.Intn(c.out) == 0 {
		o.Kind = api.IExitIf
	}
	r := operations()[slices.IndexFunc(operations(), func(r row) bool { return r.kind == o.Kind })]
	if r.has("A") {
		o.A = c.late(values)
	}
	if r.has("B") {
		o.B = c.late(values)
	}
	if o.Kind != api.IAlu && r.has("Order") && c.Intn(30) > 0 {
		o.A = c.late(addresses)
	}
	switch o.Kind {
	case api.IConst:
		o.Imm = []uint64{c.number(), c.Uint64() >> c.Intn(64)}[c.Intn(2)]
	case api.IAt, api.IExitIf:
		o.Imm = c.Uint64() &^ 3
	case api.IGetX, api.ISetX:
		o.R = c.Intn(31)
	case api.IGetF, api.ISetF:
		o.R = c.Intn(4)
	case api.IAlu:
		o.R = 1 + c.Intn(15)
	case api.IFence:
		o.R = []int{api.FenceLd, api.FenceSt, api.FenceFull}[c.Intn(3)]
	case api.ILoad:
		o.Order = c.Intn(3)
	case api.ILoadEx:
		o.Order = 2 * c.Intn(2)
	case api.IStore, api.IStoreEx:
		o.Order = 4 * c.Intn(2)
	}
	return o
}

// core is a state that is right, of a level.
func (c chance) core(el int) api.Core {
	flag := func() bool { return c.Intn(2) == 0 }
	out := api.Core{SP: [2]uint64{c.number(), c.number()}, PC: c.Uint64(), N: flag(), Z: flag(), C: flag(), V: flag(), EL: el, Mask: flag(), Vbar: 0x800, Elr: c.Uint64(), Id: c.Intn(8), Wait: c.Intn(3), Event: flag()}
	for k := range out.X {
		out.X[k] = c.number()
	}
	return out
}

// gots are what may come of accesses and fences: one of so many is a fault.
func (c chance) gots(many, faults int) []api.Got {
	out := make([]api.Got, many)
	for k := range out {
		out[k] = api.Got{Value: c.number(), Ok: c.Intn(2) == 0}
		if c.Intn(faults) == 0 {
			out[k].Fault = []int{api.Outside, api.Denied, -1, math.MinInt, 1 << 32}[c.Intn(5)]
		}
	}
	return out
}

// eachByChance tells many blocks, each with the chance that made it: such that little is kept, and such that most is.
func eachByChance(seed int64, times int, tell func(chance, api.Block)) {
	r := rand.New(rand.NewSource(seed))
	for k := range times {
		c := chance{r, []int{2, 4, 6, 12, 600}[r.Intn(5)], []int{10, 40, 1000}[r.Intn(3)]}
		many := 3 + r.Intn(60)
		if k%100 == 0 {
			many, c.out = api.MaxOps-r.Intn(2), 100000
		}
		tell(c, c.block(many))
	}
}
