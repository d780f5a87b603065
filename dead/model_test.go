package dead_test

import (
	"math"
	"math/rand"
	"reflect"
	"slices"
	"testing"

	"understudy/api"
	"understudy/dead"
	"understudy/ir"
)

func at(pc uint64) api.Op       { return api.Op{Kind: api.IAt, Imm: pc} }
func number(n uint64) api.Op    { return api.Op{Kind: api.IConst, Imm: n} }
func getX(r int) api.Op         { return api.Op{Kind: api.IGetX, R: r} }
func setX(r, a int) api.Op      { return api.Op{Kind: api.ISetX, R: r, A: a} }
func getSP() api.Op             { return api.Op{Kind: api.IGetSP} }
func setSP(a int) api.Op        { return api.Op{Kind: api.ISetSP, A: a} }
func getF(r int) api.Op         { return api.Op{Kind: api.IGetF, R: r} }
func setF(r, a int) api.Op      { return api.Op{Kind: api.ISetF, R: r, A: a} }
func reckon(r, a, b int) api.Op { return api.Op{Kind: api.IAlu, R: r, A: a, B: b} }
func load(a, order int) api.Op  { return api.Op{Kind: api.ILoad, A: a, Order: order} }
func loadEx(a, order int) api.Op {
	return api.Op{Kind: api.ILoadEx, A: a, Order: order}
}
func store(a, b, order int) api.Op {
	return api.Op{Kind: api.IStore, A: a, B: b, Order: order}
}
func storeEx(a, b, order int) api.Op {
	return api.Op{Kind: api.IStoreEx, A: a, B: b, Order: order}
}
func fence(r int) api.Op             { return api.Op{Kind: api.IFence, R: r} }
func exitIf(a int, pc uint64) api.Op { return api.Op{Kind: api.IExitIf, A: a, Imm: pc} }
func exit(pc uint64) api.Op          { return api.Op{Kind: api.IExit, Imm: pc} }
func exitTo(a int) api.Op            { return api.Op{Kind: api.IExitTo, A: a} }
func guest(word uint64) api.Op       { return api.Op{Kind: api.IGuest, Imm: word} }

// block is one of the level 1 at 64, with an IAt ahead of the operations.
func block(ops ...api.Op) api.Block {
	return api.Block{PC: 64, Words: 1, EL: 1, Ops: append([]api.Op{at(64)}, ops...)}
}

func text(b api.Block) string {
	s, err := ir.Text(b)
	if err != api.OK {
		return err.Error()
	}
	return s
}

func isAccess(o api.Op) bool {
	return slices.Contains([]int{api.ILoad, api.IStore, api.ILoadEx, api.IStoreEx}, o.Kind)
}

func leaves(o api.Op) bool {
	return isAccess(o) || slices.Contains([]int{api.IExitIf, api.IExit, api.IExitTo, api.IGuest}, o.Kind)
}

// stays tells of a kind whether it is seen, whatever stands about it.
func stays(o api.Op) bool { return leaves(o) || o.Kind == api.IFence }

// seenByWords is what P19.1 says of each operation, looked for from there on to the end.
func seenByWords(ops []api.Op) []bool {
	out := make([]bool, len(ops))
	for k := len(ops) - 1; k >= 0; k-- {
		o, behind := ops[k], ops[k+1:]
		switch o.Kind {
		case api.IAt:
			out[k] = k == 0 || !isSetAnew(behind, api.IAt, 0, 0)
		case api.ISetX:
			out[k] = !isSetAnew(behind, api.ISetX, api.IGetX, o.R)
		case api.ISetSP:
			out[k] = !isSetAnew(behind, api.ISetSP, api.IGetSP, 0)
		case api.ISetF:
			out[k] = !isSetAnew(behind, api.ISetF, api.IGetF, o.R)
		default:
			out[k] = stays(o) || isUsed(behind, out[k+1:], k)
		}
	}
	return out
}

// isSetAnew tells whether there is such a set, ahead of all that leaves and of all such gets; a get of 0 is none.
func isSetAnew(behind []api.Op, set, get, r int) bool {
	for _, o := range behind {
		if leaves(o) || o.Kind == get && o.R == r {
			return false
		}
		if o.Kind == set && o.R == r {
			return true
		}
	}
	return false
}

func isUsed(behind []api.Op, seen []bool, value int) bool {
	for k, o := range behind {
		if seen[k] && slices.Contains(ir.Uses(o), value) {
			return true
		}
	}
	return false
}

// blockByWords is P19.2's: one that is not seen goes, and its place with it, then all those behind that are not seen, and so on.
func blockByWords(ops []api.Op) []api.Op {
	ops = slices.Clone(ops)
	for {
		seen := seenByWords(ops)
		gone := slices.Index(seen, false)
		if gone < 0 {
			return ops
		}
		for ; gone >= 0; gone = slices.Index(seen, false) {
			ops, seen = slices.Delete(ops, gone, gone+1), slices.Delete(seen, gone, gone+1)
			for k := gone; k < len(ops); k++ {
				ops[k].A, ops[k].B = ahead(ops[k].A, gone), ahead(ops[k].B, gone)
			}
		}
	}
}

// ahead is a place when one has gone.
func ahead(place, gone int) int {
	if place > gone {
		return place - 1
	}
	return place
}

// seen is Seen of a right block, held against the words.
func seen(t *testing.T, b api.Block) []bool {
	t.Helper()
	have, err := dead.Seen(b)
	if want := seenByWords(b.Ops); err != api.OK || !slices.Equal(have, want) {
		t.Fatalf("%v, %v, not %v, of\n%s", err, have, want, text(b))
	}
	return have
}

// told is Block of a right block, held against the words; it must be right, of the same head, and all of it seen.
func told(t *testing.T, b api.Block) api.Block {
	t.Helper()
	x, err := dead.Block(b)
	want := api.Block{PC: b.PC, Words: b.Words, EL: b.EL, Ops: blockByWords(b.Ops)}
	if err != api.OK || !ir.Right(x) || !reflect.DeepEqual(x, want) || slices.Contains(seen(t, x), false) {
		t.Fatalf("%v, %+v, not %+v, of\n%s", err, x, want, text(b))
	}
	return x
}

// deeds are all that a run did: what was wanted, in which state, and how the block was left.
type deeds struct {
	wants   []api.Want
	states  []api.Core
	core    api.Core
	word    uint32
	guest   bool
	faulted bool
}

// byRun is what a run of a block does on a state; each answer serves one thing that is wanted, in order, and round again.
func byRun(t *testing.T, b api.Block, c api.Core, gots []api.Got) deeds {
	t.Helper()
	r, err := ir.New(b, c)
	if err != api.OK {
		t.Fatalf("%v of %+v", err, b)
	}
	var d deeds
	for want, waits := r.Next(); waits; want, waits = r.Next() {
		got := gots[len(d.wants)%len(gots)]
		d.wants, d.states = append(d.wants, want), append(d.states, r.Core())
		if err := r.Take(got); err != api.OK {
			t.Fatal(err)
		}
	}
	d.core, d.faulted = r.Core(), r.Faulted()
	d.word, d.guest = r.Guest()
	return d
}

// isSame holds what a block did against what it did ahead of that; at a fence the state is asked without what b sets anew behind it.
func isSame(b api.Block, was, is deeds) bool {
	if !slices.Equal(was.wants, is.wants) || was.core != is.core || was.word != is.word || was.guest != is.guest || was.faulted != is.faulted {
		return false
	}
	place := -1
	for k, want := range was.wants {
		place += 1 + slices.IndexFunc(b.Ops[place+1:], func(o api.Op) bool { return isAccess(o) || o.Kind == api.IFence })
		old, now := was.states[k], is.states[k]
		if want.Kind == api.WFence {
			old, now = withoutSet(old, b.Ops[place+1:]), withoutSet(now, b.Ops[place+1:])
		}
		if old != now {
			return false
		}
	}
	return true
}

// withoutSet is a state without what operations set, up to the next one that leaves.
func withoutSet(c api.Core, ops []api.Op) api.Core {
	for _, o := range ops[:slices.IndexFunc(ops, leaves)] {
		switch o.Kind {
		case api.IAt:
			c.PC = 0
		case api.ISetX:
			c.X[o.R] = 0
		case api.ISetSP:
			c.SP[c.EL] = 0
		case api.ISetF:
			*[]*bool{&c.N, &c.Z, &c.C, &c.V}[o.R] = false
		}
	}
	return c
}

// doesTheSame holds Block of a block against it, on a state, and tells how it was left.
func doesTheSame(t *testing.T, b api.Block, c api.Core, gots []api.Got) deeds {
	t.Helper()
	x, was := told(t, b), byRun(t, b, c, gots)
	if is := byRun(t, x, c, gots); !isSame(b, was, is) {
		t.Fatalf("of %+v, told %+v:\n%+v, not\n%+v\n%s\nof\n%s", c, gots, is, was, text(x), text(b))
	}
	return was
}

// chance makes blocks in which much is set for nothing, by few registers.
type chance struct {
	*rand.Rand
	registers int // so many X, from one on
	ways      int // one of so many operations leaves the block, or is an access
}

// eachByChance tells many blocks, each with the chance that made it; some are as long as may be.
func eachByChance(seed int64, tell func(chance, api.Block)) {
	r := rand.New(rand.NewSource(seed))
	for k := range 20000 {
		c := chance{r, 1 + r.Intn(4), []int{3, 8, 40}[r.Intn(3)]}
		many := 2 + c.Intn(40)
		if k%2000 == 0 {
			many = api.MaxOps
		}
		tell(c, c.block(many))
	}
}

func (c chance) block(many int) api.Block {
	b := api.Block{PC: c.Uint64() &^ 3, Words: 1 + c.Intn(16), EL: c.Intn(2)}
	b.Ops = append(b.Ops, at(b.PC))
	var values []int
	for len(b.Ops) < many-1 {
		o := c.simple()
		if len(values) > 0 && c.Intn(3) > 0 {
			o = c.using(func() int { return values[c.Intn(len(values))] })
		}
		if ir.Defines(o) {
			values = append(values, len(b.Ops))
		}
		b.Ops = append(b.Ops, o)
	}
	last := []api.Op{exit(c.Uint64()), guest(c.Uint64() >> 32)}
	if len(values) > 0 {
		last = append(last, exitTo(values[c.Intn(len(values))]))
	}
	b.Ops = append(b.Ops, last[c.Intn(len(last))])
	return b
}

func (c chance) x() int {
	return (c.Intn(c.registers) + c.Intn(2)*29) % 31
}

func (c chance) simple() api.Op {
	fences := []int{api.FenceLd, api.FenceSt, api.FenceFull}
	those := []api.Op{number(c.edge()), number(8 * uint64(c.Intn(4))), getX(c.x()), getX(c.x()), getSP(), getF(c.Intn(4)), fence(fences[c.Intn(3)]), at(4 * uint64(c.Intn(99))), at(4 * uint64(c.Intn(99)))}
	return those[c.Intn(len(those))]
}

func (c chance) using(value func() int) api.Op {
	those := []api.Op{setX(c.x(), value()), setX(c.x(), value()), setSP(value()), setF(c.Intn(4), value()), setF(c.Intn(2), value()), reckon(api.AAdd+c.Intn(api.ASlt), value(), value())}
	if c.Intn(c.ways) == 0 {
		those = []api.Op{exitIf(value(), c.Uint64()), load(value(), c.Intn(3)), loadEx(value(), 2*c.Intn(2)), store(value(), value(), 4*c.Intn(2)), storeEx(value(), value(), 4*c.Intn(2))}
	}
	return those[c.Intn(len(those))]
}

// edge is a number at an edge, or any.
func (c chance) edge() uint64 {
	edges := []uint64{0, 1, 2, 8, 63, 64, math.MaxInt64, 1 << 63, math.MaxUint64, math.MaxUint64 - 7, 1 << 32}
	if c.Intn(2) == 0 {
		return edges[c.Intn(len(edges))]
	}
	return c.Uint64() >> c.Intn(64)
}

// core is a right state of a level; most of its numbers are multiples of 8, so that accesses are wanted.
func (c chance) core(el int) api.Core {
	flag := func() bool { return c.Intn(2) == 0 }
	value := func() uint64 { return []uint64{8 * c.edge(), 8 * c.edge(), uint64(c.Intn(3)), c.edge()}[c.Intn(4)] }
	out := api.Core{
		SP: [2]uint64{value(), value()}, PC: c.Uint64(), N: flag(), Z: flag(), C: flag(), V: flag(), EL: el, Mask: flag(),
		Spsr: value(), Elr: value(), Esr: value(), Far: value(), Vbar: value(), Tpidr: value(),
		Id: c.Intn(8), Wait: c.Intn(3), Event: flag(),
	}
	for k := range out.X {
		out.X[k] = value()
	}
	return out
}

// gots are what comes of what is wanted: seldom a fault.
func (c chance) gots(many int) []api.Got {
	out := make([]api.Got, many)
	for k := range out {
		out[k] = api.Got{Value: 8 * c.edge(), Ok: c.Intn(2) == 0}
		if c.Intn(20) == 0 {
			out[k].Fault = []int{api.Outside, api.Denied, -1, math.MinInt, 1 << 32}[c.Intn(5)]
		}
	}
	return out
}
