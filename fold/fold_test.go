package fold_test

import (
	"math"
	"math/rand"
	"reflect"
	"slices"
	"testing"

	"understudy/api"
	"understudy/fold"
	"understudy/ir"
)

// of is the operation whose value the last one of a kind and an R uses.
func of(t *testing.T, b api.Block, kind, r int) api.Op {
	t.Helper()
	for _, o := range slices.Backward(b.Ops) {
		if o.Kind == kind && o.R == r {
			return b.Ops[o.A]
		}
	}
	t.Fatalf("none of the kind %d of %d:\n%s", kind, r, text(b))
	return api.Op{}
}

func has(b api.Block, kind int) bool {
	return slices.ContainsFunc(b.Ops, func(o api.Op) bool { return o.Kind == kind })
}

// P18.1, P18.2: the chapter's examples.
func TestExamples(t *testing.T) {
	sum := folded(t, block(number(2), number(3), reckon(api.AAdd, 1, 2), setX(0, 3), exit(68)))
	if o := of(t, sum, api.ISetX, 0); o != number(5) {
		t.Error(o)
	}
	used := folded(t, block(getX(7), setX(1, 1), getX(1), reckon(api.ASub, 3, 1), setX(0, 4), exit(68)))
	if o := of(t, used, api.ISetX, 0); o.Kind != api.IAlu || o.R != api.ASub || used.Ops[o.A] != getX(7) || used.Ops[o.B] != getX(7) {
		t.Error(text(used))
	}
	never := folded(t, block(number(0), exitIf(1, 4), exit(68)))
	if has(never, api.IExitIf) || never.Ops[len(never.Ops)-1] != exit(68) {
		t.Error(text(never))
	}
	flag := folded(t, block(getX(0), getX(1), reckon(api.AEq, 1, 2), setF(1, 3), getF(1), setX(0, 5), exit(68)))
	if o := of(t, flag, api.ISetX, 0); o.Kind != api.IAlu || o.R != api.AEq || has(flag, api.IGetF) {
		t.Error(text(flag))
	}
	unknown := block(getX(0), setF(1, 1), getF(1), exit(68))
	if x := folded(t, unknown); !reflect.DeepEqual(x, unknown) {
		t.Error(text(x))
	}
}

// wrong are blocks that are not right, one for each thing that chapter 16 asks, and with odd numbers in each field.
func wrong() []api.Block {
	right := func(change func(*api.Block)) api.Block {
		b := block(number(8), getX(3), reckon(api.AAdd, 1, 2), store(3, 1, 0), setF(0, 1), getF(0), exitIf(1, 4), exit(68))
		change(&b)
		return b
	}
	long := block(slices.Repeat([]api.Op{number(1)}, api.MaxOps-1)...)
	long.Ops = append(long.Ops, exit(68))
	out := []api.Block{
		{}, {PC: 64, Words: 1}, {PC: 64, Words: 1, EL: 1, Ops: []api.Op{}}, {PC: 64, Words: 1, Ops: []api.Op{exit(68)}}, long,
		block(), block(number(1)), block(exit(68), exit(68)), block(guest(1), exit(68)), block(number(4), exitTo(1), exit(68)),
		block(number(1), at(66), exit(68)), block(guest(1 << 32)), block(exitTo(0)), block(number(0), exitIf(2, 4), exit(68)),
		block(reckon(api.AAdd, 1, 1), exit(68)), block(number(1), setX(0, 1), setX(0, 2), exit(68)), block(number(1), number(2), reckon(0, 1, 2), exit(68)),
		block(getX(31), exit(68)), block(number(1), setX(31, 1), exit(68)), block(getF(4), exit(68)), block(number(1), fence(7), exit(68)),
		{PC: 64, Words: 1, Ops: []api.Op{at(68), exit(68)}},
		right(func(b *api.Block) { b.Words = 0 }), right(func(b *api.Block) { b.Words = 17 }), right(func(b *api.Block) { b.PC = 65 }), right(func(b *api.Block) { b.PC = 0 }),
	}
	for _, n := range odd() {
		out = append(out, right(func(b *api.Block) { b.Words = n }), right(func(b *api.Block) { b.EL = n }))
		for k := range right(func(*api.Block) {}).Ops {
			out = append(out, right(func(b *api.Block) { b.Ops[k].Kind = n }), right(func(b *api.Block) { b.Ops[k].R = n }), right(func(b *api.Block) { b.Ops[k].A = n }),
				right(func(b *api.Block) { b.Ops[k].B = n }), right(func(b *api.Block) { b.Ops[k].Order = n }))
		}
	}
	return slices.DeleteFunc(out, ir.Right)
}

// P18.1: a block that is not right is refused by both: ErrBlock, no block, and nothing has been changed.
func TestWrongBlocks(t *testing.T) {
	those := wrong()
	if len(those) < 1000 {
		t.Fatal(len(those))
	}
	for _, b := range those {
		if x, err := fold.Block(b); err != api.ErrBlock || !reflect.DeepEqual(x, api.Block{}) {
			t.Errorf("Block of %+v: %v, %+v", b, err, x)
		}
		if x, changed, err := fold.Step(b); err != api.ErrBlock || changed || !reflect.DeepEqual(x, api.Block{}) {
			t.Errorf("Step of %+v: %v, %v, %+v", b, err, changed, x)
		}
	}
}

// P18.1: just what is right is taken, what cannot be reached too: behind an IExitIf that leaves always all must be right.
func TestWrongByChance(t *testing.T) {
	c := chance{rand.New(rand.NewSource(18)), 3, 4}
	refused := 0
	for range 20000 {
		b := c.block(2 + c.Intn(20))
		o := &b.Ops[c.Intn(len(b.Ops))]
		n := c.Intn(24) - 2
		*[]*int{&o.Kind, &o.R, &o.A, &o.B, &o.Order}[c.Intn(5)] = n
		want := api.ErrBlock
		if ir.Right(b) {
			want = api.OK
		} else {
			refused++
		}
		_, err := fold.Block(b)
		_, _, again := fold.Step(b)
		if err != want || again != want {
			t.Fatalf("%v, %v, not %v of %+v", err, again, want, b)
		}
	}
	if refused < 5000 || refused > 19000 {
		t.Error(refused)
	}
	behind := block(number(1), exitIf(1, 4), setX(0, 2), exit(68))
	if x, err := fold.Block(behind); err != api.ErrBlock {
		t.Error(x, err)
	}
}

// edges are blocks at the edges of what is right.
func edges() []api.Block {
	longest := block(number(3))
	for k := 1; len(longest.Ops) < api.MaxOps-1; k++ {
		longest.Ops = append(longest.Ops, reckon(1+k%15, k, 1))
	}
	longest.Ops = append(longest.Ops, exitTo(api.MaxOps-2))
	gets := block(slices.Repeat([]api.Op{getX(30)}, api.MaxOps-2)...)
	gets.Ops = append(gets.Ops, exitTo(api.MaxOps-2))
	ats := block(slices.Repeat([]api.Op{at(math.MaxUint64 - 3)}, api.MaxOps-2)...)
	ats.Ops = append(ats.Ops, exit(math.MaxUint64))
	never := block(number(0))
	never.Ops = append(append(never.Ops, slices.Repeat([]api.Op{exitIf(1, 4)}, api.MaxOps-3)...), guest(math.MaxUint32))
	ends := uint64(math.MaxUint64 - 3)
	return []api.Block{
		longest, gets, ats, never, block(exit(0)), block(guest(0)),
		{PC: 0, Words: 16, EL: 0, Ops: []api.Op{at(0), getSP(), setSP(1), getSP(), exitTo(3)}},
		{PC: ends, Words: 1, EL: 1, Ops: []api.Op{at(ends), getSP(), exitTo(1)}},
	}
}

// P18.1, P18.2: blocks of one operation beside the first one, and of as many as there may be.
func TestEdges(t *testing.T) {
	c := chance{rand.New(rand.NewSource(181)), 3, 4}
	for _, b := range edges() {
		for range 20 {
			doesTheSame(t, b, c.core(b.EL), c.gots(8))
		}
		isSimple(t, b)
		isItself(t, b)
	}
	many := []int{}
	for _, b := range edges() {
		many = append(many, len(folded(t, b).Ops))
	}
	if many[1] != 3 || many[2] != api.MaxOps || many[3] > 3 || many[4] != 2 || many[5] != 2 {
		t.Error(many)
	}
}

// P3: what is handed in stays, what stands behind it in its array too; what is told is new memory, with its spare room.
func TestNothingIsShared(t *testing.T) {
	c := chance{rand.New(rand.NewSource(182)), 3, 6}
	spoil := func(ops []api.Op) {
		for k := range ops[:cap(ops)] {
			ops[:cap(ops)][k] = api.Op{Kind: 77, R: 77, A: 77, B: 77, Order: 77, Imm: 77}
		}
	}
	for k := range 3000 {
		b := c.block(2 + c.Intn(20))
		if k%3 == 0 {
			b = folded(t, b) // of which nothing is changed any more
		}
		room := append(slices.Clone(b.Ops), slices.Repeat([]api.Op{{Kind: 99}}, 8)...)
		b.Ops = room[:len(b.Ops)]
		was := slices.Clone(room)
		first, _, _ := fold.Step(b)
		second, _ := fold.Block(b)
		third, _ := fold.Block(b)
		want, wantStep := folded(t, b), slices.Clone(first.Ops)
		spoil(second.Ops)
		if !slices.Equal(room, was) || !slices.Equal(first.Ops, wantStep) || !reflect.DeepEqual(third, want) {
			t.Fatalf("%+v", b)
		}
		spoil(first.Ops)
		if !slices.Equal(room, was) || !reflect.DeepEqual(third, want) {
			t.Fatalf("%+v", b)
		}
		spoil(b.Ops)
		if !reflect.DeepEqual(third, want) {
			t.Fatalf("%+v", third)
		}
	}
}

// P4: of the same block the same is told.
func TestAlwaysTheSame(t *testing.T) {
	c := chance{rand.New(rand.NewSource(183)), 8, 6}
	for range 500 {
		b := c.block(2 + c.Intn(40))
		x, one, changed := folded(t, b), api.Block{}, false
		one, changed = stepped(t, b)
		for range 10 {
			again, is := stepped(t, b)
			if !reflect.DeepEqual(folded(t, b), x) || !reflect.DeepEqual(again, one) || is != changed {
				t.Fatal(text(b))
			}
		}
	}
}
