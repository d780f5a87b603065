package order_test

import (
	"math"
	"math/rand"
	"reflect"
	"slices"
	"testing"

	"understudy/api"
	"understudy/dead"
	"understudy/fold"
	"understudy/ir"
	"understudy/order"
)

// some are operations ahead of those that matter, so that values have names: v is 1, u 2, w 3, x 4, v + 0 6, v + 8 8.
func some(ops ...api.Op) api.Block {
	values := []api.Op{getX(1), getX(2), getX(3), getX(4), number(0), sum(1, 5), number(8), sum(1, 7)}
	return block(slices.Concat(values, ops, []api.Op{exit(68)})...)
}

// row is a block, and the one that it becomes.
type row struct{ was, then api.Block }

// hold holds what a call tells of each block against the row, and its words too.
func hold(t *testing.T, name string, rows []row) {
	t.Helper()
	p := passes()[slices.IndexFunc(passes(), func(p pass) bool { return p.name == name })]
	for k, r := range rows {
		if x := p.told(t, r.was); !reflect.DeepEqual(x, r.then) {
			t.Errorf("%s, row %d:\n%s\nnot\n%s\nof\n%s", name, k, text(x), text(r.then), text(r.was))
		}
	}
}

// P20.1, P20.2, P20.3: the chapter's examples.
func TestExamples(t *testing.T) {
	hold(t, "Merge", []row{{some(fence(13), fence(10)), some(fence(15))}})
	hold(t, "Loads", []row{
		{some(load(1, 0), load(1, 0)), some(load(1, 0))},
		{some(store(1, 3, 0), load(1, 0), setX(0, 10)), some(store(1, 3, 0), setX(0, 3))},
		{some(store(1, 3, 0), fence(15), load(1, 0)), some(store(1, 3, 0), fence(15), load(1, 0))},
		{some(store(1, 3, 0), store(1, 4, 0)), some(store(1, 4, 0))},
	})
	hold(t, "Move", []row{
		{some(store(6, 3, 0), load(8, 0)), some(load(8, 0), store(6, 3, 0))},
		{some(store(1, 3, 0), load(2, 0)), some(store(1, 3, 0), load(2, 0))},
	})
}

// odd are numbers that are no kind, no place, no level and no field, some of which look like one in their lowest bits.
func odd() []int {
	return []int{-1, -2, -14, -16, 19, 20, 32, 513, 1 << 8, 1<<8 + 1, 1<<16 + 14, 1<<31 + 2, 1 << 32, 1<<32 + 1, 1<<32 + 14, 1<<62 + 3, -1 << 32, -1<<32 + 1, math.MaxInt, math.MinInt, math.MinInt + 1}
}

// wrong are blocks that are not right, one for each thing that chapter 16 asks, and with odd numbers in each field.
func wrong() []api.Block {
	right := func(change func(*api.Block)) api.Block {
		b := block(number(8), getX(3), sum(1, 2), store(3, 1, 0), load(1, 0), fence(api.FenceLd), fence(api.FenceSt), setF(0, 1), getF(0), exitIf(1, 4), exit(68))
		change(&b)
		return b
	}
	long := block(slices.Repeat([]api.Op{number(1)}, api.MaxOps-1)...)
	long.Ops = append(long.Ops, exit(68))
	out := []api.Block{
		{}, {PC: 64, Words: 1}, {PC: 64, Words: 1, EL: 1, Ops: []api.Op{}}, {PC: 64, Words: 1, Ops: []api.Op{exit(68)}}, long,
		block(), block(number(1)), block(at(68)), block(fence(api.FenceLd)), block(fence(api.FenceLd), fence(api.FenceSt)), block(number(8), store(1, 1, 0)),
		block(number(8), store(1, 1, 0), at(68)), block(number(8), load(1, 0), load(1, 0)), block(exit(68), exit(68)), block(guest(1), exit(68)), block(number(4), exitTo(1), exit(68)),
		block(number(1), at(66), exit(68)), block(guest(1 << 32)), block(exitTo(0)), block(number(0), exitIf(2, 4), exit(68)), block(fence(7), fence(8), exit(68)),
		block(reckon(api.AAdd, 1, 1), exit(68)), block(number(1), setX(0, 1), setX(0, 2), exit(68)), block(number(1), number(2), reckon(0, 1, 2), exit(68)),
		block(number(8), store(1, 1, api.OAcq), exit(68)), block(number(8), load(1, api.ORel), exit(68)), block(number(8), store(1, 1, 0), load(2, 0), exit(68)),
		{PC: 64, Words: 1, Ops: []api.Op{at(68), exit(68)}},
		right(func(b *api.Block) { b.Words = 0 }), right(func(b *api.Block) { b.Words = 17 }), right(func(b *api.Block) { b.PC = 65 }), right(func(b *api.Block) { b.PC = 0 }),
	}
	for _, n := range odd() {
		out = append(out, right(func(b *api.Block) { b.Words = n }), right(func(b *api.Block) { b.EL = n }))
		for k := range right(func(*api.Block) {}).Ops {
			out = append(out, right(func(b *api.Block) { b.Ops[k].Kind = n }), right(func(b *api.Block) { b.Ops[k].R = n }), right(func(b *api.Block) { b.Ops[k].A = n }),
				right(func(b *api.Block) { b.Ops[k].B = n }), right(func(b *api.Block) { b.Ops[k].Order = n }))
		}
	}
	return slices.DeleteFunc(out, ir.Right)
}

// isRefused asks all calls of a block that is not right.
func isRefused(t *testing.T, b api.Block) {
	t.Helper()
	for _, p := range passes() {
		if x, err := p.call(b); err != api.ErrBlock || !reflect.DeepEqual(x, api.Block{}) {
			t.Fatalf("%s of %+v: %v, %+v", p.name, b, err, x)
		}
	}
	for _, place := range append(odd(), 0, 1, 4, len(b.Ops)-1, len(b.Ops)) {
		if may, err := order.May(b, place); err != api.ErrBlock || may {
			t.Fatalf("May of %+v, %d: %v, %v", b, place, err, may)
		}
	}
}

// P20.1 to P20.4: a block that is not right is refused by each call: ErrBlock, and nothing else; by May also at a place where there is nothing.
func TestWrongBlocks(t *testing.T) {
	those := wrong()
	if len(those) < 1200 {
		t.Fatal(len(those))
	}
	for _, b := range those {
		isRefused(t, b)
	}
}

// P20.1 to P20.4: just what is right is taken.
func TestWrongByChance(t *testing.T) {
	c := chance{rand.New(rand.NewSource(20)), 3, 3}
	refused, taken := 0, 0
	for range 6000 {
		b := c.block(8 + c.Intn(20))
		o := &b.Ops[c.Intn(len(b.Ops))]
		*[]*int{&o.Kind, &o.R, &o.A, &o.B, &o.Order}[c.Intn(5)] = c.Intn(24) - 2
		if !ir.Right(b) {
			refused++
			isRefused(t, b)
			continue
		}
		taken++
		for _, p := range passes() {
			p.told(t, b)
		}
	}
	if refused < 1000 || taken < 500 {
		t.Error(refused, taken)
	}
}

// P20.3: a place where there is no operation is refused by May: ErrArg, and false.
func TestWrongPlaces(t *testing.T) {
	b := some(store(6, 3, 0), load(8, 0))
	if may, err := order.May(b, 9); err != api.OK || !may {
		t.Error(may, err)
	}
	for _, b := range []api.Block{b, block(exit(68)), block(guest(0))} {
		for _, place := range []int{-1, -2, -len(b.Ops), len(b.Ops), len(b.Ops) + 1, 513, 1 << 32, 1<<32 + 9, -1<<32 + 9, math.MaxInt, math.MinInt, math.MinInt + 9} {
			if may, err := order.May(b, place); err != api.ErrArg || may {
				t.Error(place, may, err)
			}
		}
		for place := range b.Ops {
			if _, err := order.May(b, place); err != api.OK {
				t.Error(place, err)
			}
		}
	}
}

// full is a block of as many operations as there may be, of two numbers, and rows of one operation, all of one length.
func full(these ...api.Op) api.Block {
	b := block(number(8), number(16))
	long := (api.MaxOps - 4) / len(these)
	for _, o := range these {
		b.Ops = append(b.Ops, slices.Repeat([]api.Op{o}, long)...)
	}
	b.Ops = append(b.Ops, exit(68))
	return b
}

// chained is a block of loads, each of the value of the one ahead of it.
func chained() api.Block {
	b := block(number(8))
	for len(b.Ops) < api.MaxOps-1 {
		b.Ops = append(b.Ops, load(len(b.Ops)-1, 0))
	}
	b.Ops = append(b.Ops, exitTo(api.MaxOps-2))
	return b
}

// P20.1 to P20.4: blocks of one operation beside the first one, and of as many as there may be.
func TestEdges(t *testing.T) {
	fences, ats := full(fence(api.FenceSt)), full(at(72))
	loads, stores := full(load(1, 0)), full(store(1, 2, 0))
	both, turned := full(store(1, 2, 0), load(2, 0)), full(load(2, 0), store(1, 2, 0))
	ends := api.Block{PC: math.MaxUint64 - 3, Words: 16, Ops: []api.Op{at(math.MaxUint64 - 3), exit(math.MaxUint64)}}
	for k, edge := range []struct{ was, merge, loads, move, all api.Block }{
		{fences, block(number(8), number(16), fence(api.FenceSt), exit(68)), fences, fences, block(fence(api.FenceSt), exit(68))},
		{loads, loads, block(number(8), number(16), load(1, 0), exit(68)), loads, block(number(8), load(1, 0), exit(68))},
		{stores, stores, block(number(8), number(16), store(1, 2, 0), exit(68)), stores, block(number(8), number(16), store(1, 2, 0), exit(68))},
		{both, both, block(number(8), number(16), store(1, 2, 0), load(2, 0), exit(68)), turned, block(number(8), number(16), load(2, 0), store(1, 2, 0), exit(68))},
		{ats, ats, ats, ats, block(at(72), exit(68))},
		{chained(), chained(), chained(), chained(), chained()},
		{block(exit(0)), block(exit(0)), block(exit(0)), block(exit(0)), block(exit(0))},
		{block(guest(0)), block(guest(0)), block(guest(0)), block(guest(0)), block(guest(0))},
		{ends, ends, ends, ends, ends},
	} {
		for n, want := range []api.Block{edge.merge, edge.loads, edge.move, edge.all} {
			p := passes()[n]
			if x, err := p.call(edge.was); err != api.OK || !reflect.DeepEqual(x, want) {
				t.Errorf("%d, %s: %v, %d operations:\n%s", k, p.name, err, len(x.Ops), text(x))
			}
		}
	}
}

// P3: what is handed in stays, what stands behind it in its array too; what is told is new memory, with its spare room.
func TestNothingIsShared(t *testing.T) {
	c := chance{rand.New(rand.NewSource(203)), 3, 5}
	spoil := func(b api.Block) {
		ops := b.Ops[:cap(b.Ops)]
		for k := range ops {
			ops[k] = api.Op{Kind: 77, R: 77, A: 77, B: 77, Order: 77, Imm: 77}
		}
	}
	for k := range 1000 {
		b := c.block(8 + c.Intn(20))
		for _, p := range passes() {
			if k%3 == 0 {
				b = p.told(t, b) // of which nothing more is to be done
			}
			room := append(slices.Clone(b.Ops), slices.Repeat([]api.Op{{Kind: 99}}, 8)...)
			b := api.Block{PC: b.PC, Words: b.Words, EL: b.EL, Ops: room[:len(b.Ops)]}
			was, want := slices.Clone(room), p.told(t, b)
			holdsMay(t, b)
			first, _ := p.call(b)
			second, _ := p.call(b)
			spoil(first)
			if !slices.Equal(room, was) || !reflect.DeepEqual(second, want) {
				t.Fatalf("%s of %+v", p.name, b)
			}
			spoil(b)
			if !reflect.DeepEqual(second, want) {
				t.Fatalf("%s: %+v", p.name, second)
			}
		}
	}
}

// P4: of the same block the same is told, whatever others were asked between.
func TestAlwaysTheSame(t *testing.T) {
	c := chance{rand.New(rand.NewSource(204)), 4, 5}
	for range 200 {
		b := c.block(8 + c.Intn(30))
		for _, p := range passes() {
			x := p.told(t, b)
			for _, other := range passes() {
				other.told(t, c.block(8+c.Intn(20)))
				if !reflect.DeepEqual(p.told(t, b), x) {
					t.Fatal(p.name, text(b))
				}
			}
		}
	}
}

// P20.1 to P20.4: blocks by chance, held against the words; much is done by each call, and May is asked of each place.
func TestByChance(t *testing.T) {
	changes, places := map[string]int{}, 0
	eachByChance(2001, func(_ chance, b api.Block) {
		for _, p := range passes() {
			if x := p.told(t, b); !reflect.DeepEqual(x, b) {
				changes[p.name]++
			}
		}
		places += holdsMay(t, b)
	})
	if changes["Merge"] < 1000 || changes["Loads"] < 5000 || changes["Move"] < 900 || changes["All"] < 7000 || places < 1100 {
		t.Error(changes, places)
	}
}

// P20.4: All is what the calls tell, one behind the other, once each.
func TestAllIsOneBehindTheOther(t *testing.T) {
	more := 0
	eachByChance(2004, func(_ chance, b api.Block) {
		x, err := order.All(b)
		if err != api.OK {
			t.Fatal(err)
		}
		want := b
		for _, call := range []func(api.Block) (api.Block, api.Errno){fold.Block, order.Merge, order.Loads, order.Move, dead.Block} {
			if want, err = call(want); err != api.OK {
				t.Fatal(err)
			}
		}
		if !reflect.DeepEqual(x, want) {
			t.Fatalf("%s\nnot\n%s\nof\n%s", text(x), text(want), text(b))
		}
		if twice, _ := order.All(x); !reflect.DeepEqual(twice, x) {
			more++
		}
	})
	if more == 0 {
		t.Error("a second All never did more: it can't be told from one that goes on")
	}
}
