package fold_test

import (
	"math"
	"math/rand"
	"reflect"
	"slices"
	"testing"

	"understudy/alu"
	"understudy/api"
	"understudy/fold"
	"understudy/ir"
)

func at(pc uint64) api.Op       { return api.Op{Kind: api.IAt, Imm: pc} }
func number(n uint64) api.Op    { return api.Op{Kind: api.IConst, Imm: n} }
func getX(r int) api.Op         { return api.Op{Kind: api.IGetX, R: r} }
func setX(r, a int) api.Op      { return api.Op{Kind: api.ISetX, R: r, A: a} }
func getSP() api.Op             { return api.Op{Kind: api.IGetSP} }
func setSP(a int) api.Op        { return api.Op{Kind: api.ISetSP, A: a} }
func getF(r int) api.Op         { return api.Op{Kind: api.IGetF, R: r} }
func setF(r, a int) api.Op      { return api.Op{Kind: api.ISetF, R: r, A: a} }
func reckon(r, a, b int) api.Op { return api.Op{Kind: api.IAlu, R: r, A: a, B: b} }
func load(a, order int) api.Op  { return api.Op{Kind: api.ILoad, A: a, Order: order} }
func loadEx(a, order int) api.Op {
	return api.Op{Kind: api.ILoadEx, A: a, Order: order}
}
func store(a, b, order int) api.Op {
	return api.Op{Kind: api.IStore, A: a, B: b, Order: order}
}
func storeEx(a, b, order int) api.Op {
	return api.Op{Kind: api.IStoreEx, A: a, B: b, Order: order}
}
func fence(r int) api.Op             { return api.Op{Kind: api.IFence, R: r} }
func exitIf(a int, pc uint64) api.Op { return api.Op{Kind: api.IExitIf, A: a, Imm: pc} }
func exit(pc uint64) api.Op          { return api.Op{Kind: api.IExit, Imm: pc} }
func exitTo(a int) api.Op            { return api.Op{Kind: api.IExitTo, A: a} }
func guest(word uint64) api.Op       { return api.Op{Kind: api.IGuest, Imm: word} }

// block is one of the level 1 at 64, with an IAt ahead of the operations.
func block(ops ...api.Op) api.Block {
	return api.Block{PC: 64, Words: 1, EL: 1, Ops: append([]api.Op{at(64)}, ops...)}
}

// odd are numbers that are no kind, no place, no level and no field, some of which look like one in their lowest bits.
func odd() []int {
	return []int{-1, -2, -14, -16, 19, 20, 32, 513, 1 << 8, 1<<8 + 1, 1<<16 + 14, 1<<31 + 2, 1 << 32, 1<<32 + 1, 1<<32 + 14, 1<<62 + 3, -1 << 32, -1<<32 + 1, math.MaxInt, math.MinInt, math.MinInt + 1}
}

// deeds are all that a run did: what was wanted, in which state, and how the block was left.
type deeds struct {
	wants   []api.Want
	states  []api.Core
	core    api.Core
	word    uint32
	guest   bool
	faulted bool
}

// byRun is what a run of a block does on a state; each answer serves one thing that is wanted, in order, and round again.
func byRun(t *testing.T, b api.Block, c api.Core, gots []api.Got) deeds {
	t.Helper()
	r, err := ir.New(b, c)
	if err != api.OK {
		t.Fatalf("%v of %+v", err, b)
	}
	var d deeds
	for want, waits := r.Next(); waits; want, waits = r.Next() {
		got := gots[len(d.wants)%len(gots)]
		d.wants, d.states = append(d.wants, want), append(d.states, r.Core())
		if err := r.Take(got); err != api.OK {
			t.Fatal(err)
		}
	}
	d.core, d.faulted = r.Core(), r.Faulted()
	d.word, d.guest = r.Guest()
	return d
}

func same(a, b deeds) bool {
	return slices.Equal(a.wants, b.wants) && slices.Equal(a.states, b.states) &&
		a.core == b.core && a.word == b.word && a.guest == b.guest && a.faulted == b.faulted
}

func text(b api.Block) string {
	s, err := ir.Text(b)
	if err != api.OK {
		return err.Error()
	}
	return s
}

// folded is Block of a right block, which must be right, and of the same head.
func folded(t *testing.T, b api.Block) api.Block {
	t.Helper()
	x, err := fold.Block(b)
	holds(t, "Block", b, x, err)
	return x
}

// stepped is Step of a right block, held to the same, and to what it tells of a change.
func stepped(t *testing.T, b api.Block) (api.Block, bool) {
	t.Helper()
	x, changed, err := fold.Step(b)
	holds(t, "Step", b, x, err)
	if changed == reflect.DeepEqual(x, b) {
		t.Fatalf("Step of\n%s tells %v:\n%s", text(b), changed, text(x))
	}
	return x, changed
}

func holds(t *testing.T, call string, b, x api.Block, err api.Errno) {
	t.Helper()
	if err != api.OK || !ir.Right(x) || x.PC != b.PC || x.Words != b.Words || x.EL != b.EL || len(x.Ops) > len(b.Ops) {
		t.Fatalf("%s of %+v: %v, %+v", call, b, err, x)
	}
}

// doesTheSame holds Block and Step of a block against it, on a state, and tells how it was left.
func doesTheSame(t *testing.T, b api.Block, c api.Core, gots []api.Got) deeds {
	t.Helper()
	want := byRun(t, b, c, gots)
	one, _ := stepped(t, b)
	for _, x := range []api.Block{folded(t, b), one} {
		if have := byRun(t, x, c, gots); !same(want, have) {
			t.Fatalf("of %+v, told %+v:\n%+v, not\n%+v\n%s\nof\n%s", c, gots, have, want, text(x), text(b))
		}
	}
	return want
}

// leftover tells what P18.2 lets not be in what Block tells; empty: nothing of it is there.
func leftover(b api.Block) string {
	for k, o := range b.Ops {
		ahead := b.Ops[:k]
		switch o.Kind {
		case api.IAlu:
			if b.Ops[o.A].Kind == api.IConst && b.Ops[o.B].Kind == api.IConst {
				return "an IAlu of two IConsts"
			}
		case api.IGetX:
			if slices.ContainsFunc(ahead, func(a api.Op) bool { return (a.Kind == api.ISetX || a.Kind == api.IGetX) && a.R == o.R }) {
				return "an IGetX that is known"
			}
		case api.IGetSP:
			if slices.ContainsFunc(ahead, func(a api.Op) bool { return a.Kind == api.ISetSP || a.Kind == api.IGetSP }) {
				return "an IGetSP that is known"
			}
		case api.IGetF:
			if isFlagKnown(b.Ops, ahead, o.R) {
				return "an IGetF that is known"
			}
		case api.IExitIf:
			if b.Ops[o.A].Kind == api.IConst {
				return "an IExitIf of an IConst"
			}
		}
	}
	return ""
}

// isFlagKnown asks the last one ahead that gets or sets the flag.
func isFlagKnown(ops, ahead []api.Op, r int) bool {
	for _, a := range slices.Backward(ahead) {
		if a.R != r || a.Kind != api.IGetF && a.Kind != api.ISetF {
			continue
		}
		if a.Kind == api.IGetF {
			return true
		}
		v := ops[a.A]
		return v.Kind == api.IGetF || v == number(0) || v == number(1) ||
			v.Kind == api.IAlu && slices.Contains([]int{api.AEq, api.AUlt, api.ASlt}, v.R)
	}
	return false
}

// sorts counts what P18.2 lets not become more: each kind of access by its order, each fence by its kind, IAts, exits, IGuests.
func sorts(b api.Block) map[[3]int]int {
	out := map[[3]int]int{}
	for _, o := range b.Ops {
		switch o.Kind {
		case api.ILoad, api.IStore, api.ILoadEx, api.IStoreEx, api.IFence, api.IAt, api.IGuest:
			out[[3]int{o.Kind, o.R, o.Order}]++
		case api.IExitIf, api.IExit, api.IExitTo:
			out[[3]int{api.IExit}]++
		}
	}
	return out
}

// isSimple asks P18.2's last sentence of what Block tells of a block.
func isSimple(t *testing.T, b api.Block) {
	t.Helper()
	x := folded(t, b)
	if what := leftover(x); what != "" {
		t.Fatalf("%s:\n%s\nof\n%s", what, text(x), text(b))
	}
	most := sorts(b)
	for sort, many := range sorts(x) {
		if many > most[sort] {
			t.Fatalf("%d of %v, not at most %d:\n%s\nof\n%s", many, sort, most[sort], text(x), text(b))
		}
	}
}

// chance makes blocks in which much can be made simpler, by few registers and small numbers.
type chance struct {
	*rand.Rand
	registers int // so many X, from one on
	exits     int // one of so many operations leaves the block, if its value is not 0
}

func (c chance) block(many int) api.Block {
	b := api.Block{PC: c.Uint64() &^ 3, Words: 1 + c.Intn(16), EL: c.Intn(2)}
	b.Ops = append(b.Ops, at(b.PC))
	var values []int
	for len(b.Ops) < many-1 {
		o := c.simple()
		if len(values) > 0 && c.Intn(3) > 0 {
			o = c.using(func() int { return values[c.Intn(len(values))] })
		}
		if ir.Defines(o) {
			values = append(values, len(b.Ops))
		}
		b.Ops = append(b.Ops, o)
	}
	last := []api.Op{exit(c.Uint64()), guest(c.Uint64() >> 32)}
	if len(values) > 0 {
		last = append(last, exitTo(values[c.Intn(len(values))]))
	}
	b.Ops = append(b.Ops, last[c.Intn(len(last))])
	return b
}

// eachByChance tells many blocks, each with the chance that made it; some are as long as may be.
func eachByChance(seed int64, tell func(chance, api.Block)) {
	r := rand.New(rand.NewSource(seed))
	for k := range 20000 {
		c := chance{r, 1 + r.Intn(4), []int{4, 12, 60}[r.Intn(3)]}
		many := 2 + c.Intn(40)
		if k%1000 == 0 {
			many = api.MaxOps
		}
		tell(c, c.block(many))
	}
}

func (c chance) x() int {
	return (c.Intn(c.registers) + c.Intn(2)*29) % 31
}

func (c chance) simple() api.Op {
	fences := []int{api.FenceLd, api.FenceSt, api.FenceFull}
	those := []api.Op{number(uint64(c.Intn(3))), number(8 * uint64(c.Intn(4))), number(c.edge()), getX(c.x()), getX(c.x()), getSP(), getF(c.Intn(4)), getF(c.Intn(2)), fence(fences[c.Intn(3)]), at(4 * uint64(c.Intn(99)))}
	return those[c.Intn(len(those))]
}

func (c chance) using(value func() int) api.Op {
	if c.Intn(c.exits) == 0 {
		return exitIf(value(), c.Uint64())
	}
	if c.Intn(3) == 0 {
		accesses := []api.Op{load(value(), c.Intn(3)), loadEx(value(), 2*c.Intn(2)), store(value(), value(), 4*c.Intn(2)), storeEx(value(), value(), 4*c.Intn(2))}
		return accesses[c.Intn(len(accesses))]
	}
	those := []api.Op{setX(c.x(), value()), setX(c.x(), value()), setSP(value()), setF(c.Intn(4), value()), setF(c.Intn(2), value()), reckon(api.AAdd+c.Intn(api.ASlt), value(), value()), reckon(api.AEq+c.Intn(3), value(), value())}
	return those[c.Intn(len(those))]
}

// edge is a number at an edge, or any.
func (c chance) edge() uint64 {
	edges := []uint64{0, 1, 2, 3, 8, 63, 64, 65, math.MaxInt64, 1 << 63, math.MaxUint64, math.MaxUint64 - 7, 1 << 32}
	if c.Intn(2) == 0 {
		return edges[c.Intn(len(edges))]
	}
	return c.Uint64() >> c.Intn(64)
}

// core is a right state of a level; most of its numbers are multiples of 8, so that accesses are wanted.
func (c chance) core(el int) api.Core {
	flag := func() bool { return c.Intn(2) == 0 }
	value := func() uint64 { return []uint64{8 * c.edge(), 8 * c.edge(), uint64(c.Intn(3)), c.edge()}[c.Intn(4)] }
	out := api.Core{
		SP: [2]uint64{value(), value()}, PC: c.Uint64(), N: flag(), Z: flag(), C: flag(), V: flag(), EL: el, Mask: flag(),
		Spsr: value(), Elr: value(), Esr: value(), Far: value(), Vbar: value(), Tpidr: value(),
		Id: c.Intn(8), Wait: c.Intn(3), Event: flag(),
	}
	for k := range out.X {
		out.X[k] = value()
	}
	return out
}

// gots are what comes of what is wanted: seldom a fault.
func (c chance) gots(many int) []api.Got {
	out := make([]api.Got, many)
	for k := range out {
		out[k] = api.Got{Value: 8 * c.edge(), Ok: c.Intn(2) == 0}
		if c.Intn(20) == 0 {
			out[k].Fault = []int{api.Outside, api.Denied, -1, math.MinInt, 1 << 32}[c.Intn(5)]
		}
	}
	return out
}

// reckoned is a number that alu tells.
func reckoned(t *testing.T, kind int, a, b uint64) uint64 {
	t.Helper()
	value, err := alu.Reckon(kind, a, b)
	if err != api.OK {
		t.Fatal(kind, err)
	}
	return value
}
