package order_test

import (
	"math/rand"
	"reflect"
	"slices"
	"testing"

	"understudy/api"
	"understudy/dead"
	"understudy/fold"
	"understudy/ir"
	"understudy/order"
)

func at(pc uint64) api.Op       { return api.Op{Kind: api.IAt, Imm: pc} }
func number(n uint64) api.Op    { return api.Op{Kind: api.IConst, Imm: n} }
func getX(r int) api.Op         { return api.Op{Kind: api.IGetX, R: r} }
func setX(r, a int) api.Op      { return api.Op{Kind: api.ISetX, R: r, A: a} }
func getSP() api.Op             { return api.Op{Kind: api.IGetSP} }
func setSP(a int) api.Op        { return api.Op{Kind: api.ISetSP, A: a} }
func getF(r int) api.Op         { return api.Op{Kind: api.IGetF, R: r} }
func setF(r, a int) api.Op      { return api.Op{Kind: api.ISetF, R: r, A: a} }
func reckon(r, a, b int) api.Op { return api.Op{Kind: api.IAlu, R: r, A: a, B: b} }
func sum(a, b int) api.Op       { return reckon(api.AAdd, a, b) }
func load(a, order int) api.Op  { return api.Op{Kind: api.ILoad, A: a, Order: order} }
func loadEx(a, order int) api.Op {
	return api.Op{Kind: api.ILoadEx, A: a, Order: order}
}
func store(a, b, order int) api.Op {
	return api.Op{Kind: api.IStore, A: a, B: b, Order: order}
}
func storeEx(a, b, order int) api.Op {
	return api.Op{Kind: api.IStoreEx, A: a, B: b, Order: order}
}
func fence(r int) api.Op             { return api.Op{Kind: api.IFence, R: r} }
func exitIf(a int, pc uint64) api.Op { return api.Op{Kind: api.IExitIf, A: a, Imm: pc} }
func exit(pc uint64) api.Op          { return api.Op{Kind: api.IExit, Imm: pc} }
func exitTo(a int) api.Op            { return api.Op{Kind: api.IExitTo, A: a} }
func guest(word uint64) api.Op       { return api.Op{Kind: api.IGuest, Imm: word} }

// block is one of the level 1 at 64, with an IAt ahead of the operations.
func block(ops ...api.Op) api.Block {
	return api.Block{PC: 64, Words: 1, EL: 1, Ops: append([]api.Op{at(64)}, ops...)}
}

func text(b api.Block) string {
	s, err := ir.Text(b)
	if err != api.OK {
		return err.Error()
	}
	return s
}

func isOf(o api.Op, kinds ...int) bool { return slices.Contains(kinds, o.Kind) }

func isAccess(o api.Op) bool {
	return isOf(o, api.ILoad, api.IStore, api.ILoadEx, api.IStoreEx)
}

func isQuiet(o api.Op) bool {
	return isOf(o, api.IConst, api.IGetX, api.IGetSP, api.IGetF, api.IAlu, api.IAt)
}

func isPlain(o api.Op, kind int) bool { return o.Kind == kind && o.Order == api.OPlain }

// arranged is those operations of some, by their places, in that order, with A and B told anew.
func arranged(ops []api.Op, places []int) []api.Op {
	var out []api.Op
	for _, place := range places {
		o := ops[place]
		switch o.Kind {
		case api.ISetX, api.ISetSP, api.ISetF, api.ILoad, api.ILoadEx, api.IExitIf, api.IExitTo:
			o.A = slices.Index(places, o.A)
		case api.IAlu, api.IStore, api.IStoreEx:
			o.A, o.B = slices.Index(places, o.A), slices.Index(places, o.B)
		}
		out = append(out, o)
	}
	return out
}

// places are those from one on, up to another one and not with it.
func places(from, to int) []int {
	var out []int
	for k := from; k < to; k++ {
		out = append(out, k)
	}
	return out
}

// ats are those of some places at which IAts stand, and all the others.
func ats(ops []api.Op, these []int) (is, others []int) {
	for _, k := range these {
		if ops[k].Kind == api.IAt {
			is = append(is, k)
		} else {
			others = append(others, k)
		}
	}
	return is, others
}

// oneMerge is one time of P20.1: the first fence with another one, and no access and no IExitIf between.
func oneMerge(ops []api.Op) ([]api.Op, bool) {
	for i, o := range ops {
		if o.Kind != api.IFence {
			continue
		}
		for j := i + 1; j < len(ops); j++ {
			isBetween := slices.ContainsFunc(ops[i+1:j], func(o api.Op) bool { return isAccess(o) || o.Kind == api.IExitIf })
			if ops[j].Kind != api.IFence || isBetween {
				continue
			}
			ops = slices.Clone(ops)
			ops[j].R |= o.R
			return arranged(ops, append(places(0, i), places(i+1, len(ops))...)), true
		}
	}
	return ops, false
}

// oneLoads is one time of P20.2.
func oneLoads(ops []api.Op) ([]api.Op, bool) {
	for k, o := range ops {
		if isPlain(o, api.ILoad) {
			if other := source(ops, k); other >= 0 {
				return without(ops, k, other), true
			}
		}
		if isPlain(o, api.IStore) {
			if over := storedOver(ops, k); over >= 0 {
				between, others := ats(ops, places(k+1, over))
				return arranged(ops, slices.Concat(places(0, k), others, []int{over}, between, places(over+1, len(ops)))), true
			}
		}
	}
	return ops, false
}

// source is (a)'s operation ahead: of several the last one; -1: there is none.
func source(ops []api.Op, place int) int {
	out := -1
	for k, o := range ops[:place] {
		bad := slices.ContainsFunc(ops[k+1:place], func(o api.Op) bool {
			return isOf(o, api.IStore, api.IStoreEx, api.ILoadEx, api.IFence) || o.Kind == api.ILoad && o.Order != api.OPlain
		})
		if isOf(o, api.ILoad, api.IStore) && o.A == ops[place].A && !bad {
			out = k
		}
	}
	return out
}

// without is what is left when a load goes; what used its value uses the one of another operation.
func without(ops []api.Op, gone, other int) []api.Op {
	value := other
	if ops[other].Kind == api.IStore {
		value = ops[other].B
	}
	ops = slices.Clone(ops)
	for k := range ops { // a field that a kind has not is 0, where the first operation stands
		if ops[k].A == gone {
			ops[k].A = value
		}
		if ops[k].B == gone {
			ops[k].B = value
		}
	}
	return arranged(ops, append(places(0, gone), places(gone+1, len(ops))...))
}

// storedOver is (b)'s store behind; -1: there is none.
func storedOver(ops []api.Op, place int) int {
	for k := place + 1; k < len(ops); k++ {
		if isPlain(ops[k], api.IStore) && ops[k].A == ops[place].A {
			return k
		}
		if !isQuiet(ops[k]) {
			break
		}
	}
	return -1
}

// mayByWords is P20.3's question, of a place where there is an operation, and where the load is.
func mayByWords(ops []api.Op, place int) (int, bool) {
	if !isPlain(ops[place], api.IStore) {
		return 0, false
	}
	k := place + 1 + slices.IndexFunc(ops[place+1:], func(o api.Op) bool { return !isQuiet(o) })
	return k, isPlain(ops[k], api.ILoad) && differ(ops, ops[place].A, ops[k].A)
}

func differ(ops []api.Op, x, y int) bool {
	a, b := ops[x], ops[y]
	if a.Kind == api.IConst && b.Kind == api.IConst {
		return a.Imm != b.Imm
	}
	isSum := func(o api.Op) bool { return o.Kind == api.IAlu && o.R == api.AAdd && ops[o.B].Kind == api.IConst }
	switch {
	case isSum(a) && isSum(b) && a.A == b.A && ops[a.B].Imm != ops[b.B].Imm:
		return true
	case isSum(a) && ops[a.B].Imm != 0 && y == a.A:
		return true
	case isSum(b) && ops[b.B].Imm != 0 && x == b.A:
		return true
	}
	return false
}

// oneMove is one time of P20.3's Move.
func oneMove(ops []api.Op) ([]api.Op, bool) {
	for k := range ops {
		if at, may := mayByWords(ops, k); may {
			between, others := ats(ops, places(k+1, at))
			return arranged(ops, slices.Concat(places(0, k), others, []int{at}, []int{k}, between, places(at+1, len(ops)))), true
		}
	}
	return ops, false
}

// pass is a call that tells a block of a block, and what the words say that it tells.
type pass struct {
	name  string
	call  func(api.Block) (api.Block, api.Errno)
	words func(api.Block) api.Block
}

func again(one func([]api.Op) ([]api.Op, bool)) func(api.Block) api.Block {
	return func(b api.Block) api.Block {
		for more := true; more; {
			b.Ops, more = one(b.Ops)
		}
		return b
	}
}

func passes() []pass {
	out := []pass{{"Merge", order.Merge, again(oneMerge)}, {"Loads", order.Loads, again(oneLoads)}, {"Move", order.Move, again(oneMove)}}
	return append(out, pass{"All", order.All, func(b api.Block) api.Block {
		b, _ = fold.Block(b)
		for _, p := range out {
			b = p.words(b)
		}
		b, _ = dead.Block(b)
		return b
	}})
}

// told is what a call tells of a right block, held against the words.
func (p pass) told(t *testing.T, b api.Block) api.Block {
	t.Helper()
	x, err := p.call(b)
	if want := p.words(b); err != api.OK || !ir.Right(x) || !reflect.DeepEqual(x, want) {
		t.Fatalf("%s: %v\n%s\nnot\n%s\nof\n%s", p.name, err, text(x), text(want), text(b))
	}
	return x
}

// holdsMay asks May of each place of a block.
func holdsMay(t *testing.T, b api.Block) int {
	t.Helper()
	many := 0
	for k := range b.Ops {
		_, want := mayByWords(b.Ops, k)
		if may, err := order.May(b, k); err != api.OK || may != want {
			t.Fatalf("%d: %v, %v, not %v, of\n%s", k, err, may, want, text(b))
		}
		if want {
			many++
		}
	}
	return many
}

// chance makes blocks of few addresses, so that many accesses are of one.
type chance struct {
	*rand.Rand
	addresses int // so many of the values are addresses, beside those that are loaded
	loud      int // one of so many operations is neither quiet nor a plain access
}

// block has its addresses at its beginning: numbers, registers, and sums of these.
func (c chance) block(many int) api.Block {
	b := api.Block{PC: c.Uint64() &^ 3, Words: 1 + c.Intn(16), EL: c.Intn(2)}
	b.Ops = append(b.Ops, at(b.PC), number(8*uint64(c.Intn(3))), number(8*uint64(c.Intn(3))), getX(1))
	values := []int{2, 3}
	put := func(o api.Op) {
		if ir.Defines(o) {
			values = append(values, len(b.Ops))
		}
		b.Ops = append(b.Ops, o)
	}
	any := func() int { return values[c.Intn(len(values))] }
	for len(values) < c.addresses {
		put([]api.Op{number(8 * uint64(c.Intn(3))), sum(any(), any()), sum(any(), 1), sum(3, 1), sum(3, 2), getX(1 + c.Intn(2)), reckon(api.AAdd+c.Intn(2), any(), any())}[c.Intn(7)])
	}
	for len(b.Ops) < many-1 {
		put(c.op(func() int {
			if c.Intn(8) > 0 {
				return values[c.Intn(c.addresses)]
			}
			return any()
		}))
	}
	b.Ops = append(b.Ops, []api.Op{exit(c.Uint64()), guest(c.Uint64() >> 32), exitTo(any())}[c.Intn(3)])
	return b
}

func (c chance) op(value func() int) api.Op {
	fences := []int{api.FenceLd, api.FenceSt, api.FenceFull}
	if c.Intn(c.loud) == 0 {
		those := []api.Op{
			exitIf(value(), 4*uint64(c.Intn(99))), load(value(), c.Intn(3)), store(value(), value(), api.ORel), loadEx(value(), 2*c.Intn(2)), storeEx(value(), value(), 4*c.Intn(2)),
			fence(fences[c.Intn(3)]), fence(fences[c.Intn(3)]), fence(fences[c.Intn(3)]), setX(1+c.Intn(3), value()), setX(1+c.Intn(3), value()), setSP(value()), setF(c.Intn(4), value()),
		}
		return those[c.Intn(len(those))]
	}
	if c.Intn(3) == 0 {
		those := []api.Op{number(8 * uint64(c.Intn(3))), getX(1 + c.Intn(3)), getSP(), getF(c.Intn(4)), sum(value(), value()), at(4 * uint64(c.Intn(99))), at(4 * uint64(c.Intn(99)))}
		return those[c.Intn(len(those))]
	}
	return []api.Op{load(value(), 0), store(value(), value(), 0)}[c.Intn(2)]
}

// eachByChance tells many blocks, each with the chance that made it.
func eachByChance(seed int64, tell func(chance, api.Block)) {
	r := rand.New(rand.NewSource(seed))
	for range 8000 {
		c := chance{r, 2 + r.Intn(5), []int{2, 4, 20}[r.Intn(3)]}
		tell(c, c.block(10+c.Intn(40)))
	}
}
