package dead_test

import (
	"math"
	"math/rand"
	"reflect"
	"slices"
	"testing"

	"understudy/api"
	"understudy/dead"
	"understudy/ir"
)

// P19.1, P19.2: the chapter's examples.
func TestExamples(t *testing.T) {
	for _, row := range []struct {
		b    api.Block
		seen []bool
		left []api.Op
	}{
		{
			block(number(1), setX(0, 1), number(2), setX(0, 3), exit(68)),
			[]bool{true, false, false, true, true, true},
			block(number(2), setX(0, 1), exit(68)).Ops,
		},
		{
			block(number(1), setX(0, 1), load(1, 0), number(2), setX(0, 4), exit(68)),
			[]bool{true, true, true, true, true, true, true},
			block(number(1), setX(0, 1), load(1, 0), number(2), setX(0, 4), exit(68)).Ops,
		},
		{block(at(68), exit(72)), []bool{true, true, true}, block(at(68), exit(72)).Ops},
		{block(at(68), at(72), exit(76)), []bool{true, false, true, true}, block(at(72), exit(76)).Ops},
	} {
		if have, err := dead.Seen(row.b); err != api.OK || !slices.Equal(have, row.seen) {
			t.Error(err, have, row.seen)
		}
		want := api.Block{PC: 64, Words: 1, EL: 1, Ops: row.left}
		if x, err := dead.Block(row.b); err != api.OK || !reflect.DeepEqual(x, want) {
			t.Error(err, text(x), text(want))
		}
	}
}

// odd are numbers that are no kind, no place, no level and no field, some of which look like one in their lowest bits.
func odd() []int {
	return []int{-1, -2, -14, -16, 19, 20, 32, 513, 1 << 8, 1<<8 + 1, 1<<16 + 14, 1<<31 + 2, 1 << 32, 1<<32 + 1, 1<<32 + 14, 1<<62 + 3, -1 << 32, -1<<32 + 1, math.MaxInt, math.MinInt, math.MinInt + 1}
}

// wrong are blocks that are not right, one for each thing that chapter 16 asks, and with odd numbers in each field.
func wrong() []api.Block {
	right := func(change func(*api.Block)) api.Block {
		b := block(number(8), getX(3), reckon(api.AAdd, 1, 2), store(3, 1, 0), setF(0, 1), getF(0), exitIf(1, 4), exit(68))
		change(&b)
		return b
	}
	long := block(slices.Repeat([]api.Op{number(1)}, api.MaxOps-1)...)
	long.Ops = append(long.Ops, exit(68))
	out := []api.Block{
		{}, {PC: 64, Words: 1}, {PC: 64, Words: 1, EL: 1, Ops: []api.Op{}}, {PC: 64, Words: 1, Ops: []api.Op{exit(68)}}, long,
		block(), block(number(1)), block(at(68)), block(exit(68), exit(68)), block(guest(1), exit(68)), block(number(4), exitTo(1), exit(68)),
		block(number(1), at(66), exit(68)), block(guest(1 << 32)), block(exitTo(0)), block(number(0), exitIf(2, 4), exit(68)),
		block(reckon(api.AAdd, 1, 1), exit(68)), block(number(1), setX(0, 1), setX(0, 2), exit(68)), block(number(1), number(2), reckon(0, 1, 2), exit(68)),
		block(getX(31), exit(68)), block(number(1), setX(31, 1), exit(68)), block(getF(4), exit(68)), block(number(1), fence(7), exit(68)),
		{PC: 64, Words: 1, Ops: []api.Op{at(68), exit(68)}},
		right(func(b *api.Block) { b.Words = 0 }), right(func(b *api.Block) { b.Words = 17 }), right(func(b *api.Block) { b.PC = 65 }), right(func(b *api.Block) { b.PC = 0 }),
	}
	for _, n := range odd() {
		out = append(out, right(func(b *api.Block) { b.Words = n }), right(func(b *api.Block) { b.EL = n }))
		for k := range right(func(*api.Block) {}).Ops {
			out = append(out, right(func(b *api.Block) { b.Ops[k].Kind = n }), right(func(b *api.Block) { b.Ops[k].R = n }), right(func(b *api.Block) { b.Ops[k].A = n }),
				right(func(b *api.Block) { b.Ops[k].B = n }), right(func(b *api.Block) { b.Ops[k].Order = n }))
		}
	}
	return slices.DeleteFunc(out, ir.Right)
}

// P19.1, P19.2: a block that is not right is refused by both: ErrBlock, and nothing else.
func TestWrongBlocks(t *testing.T) {
	those := wrong()
	if len(those) < 1000 {
		t.Fatal(len(those))
	}
	for _, b := range those {
		if have, err := dead.Seen(b); err != api.ErrBlock || len(have) != 0 {
			t.Errorf("Seen of %+v: %v, %v", b, err, have)
		}
		if x, err := dead.Block(b); err != api.ErrBlock || !reflect.DeepEqual(x, api.Block{}) {
			t.Errorf("Block of %+v: %v, %+v", b, err, x)
		}
	}
}

// P19.1, P19.2: just what is right is taken: of what nobody sees, too, each operation must be right.
func TestWrongByChance(t *testing.T) {
	c := chance{rand.New(rand.NewSource(19)), 3, 8}
	refused := 0
	for range 20000 {
		b := c.block(2 + c.Intn(20))
		o := &b.Ops[c.Intn(len(b.Ops))]
		*[]*int{&o.Kind, &o.R, &o.A, &o.B, &o.Order}[c.Intn(5)] = c.Intn(24) - 2
		want := api.ErrBlock
		if ir.Right(b) {
			want = api.OK
		} else {
			refused++
		}
		_, err := dead.Seen(b)
		_, again := dead.Block(b)
		if err != want || again != want {
			t.Fatalf("%v, %v, not %v of %+v", err, again, want, b)
		}
	}
	if refused < 5000 || refused > 19000 {
		t.Error(refused)
	}
}

// peeled is a block of which each go but the last one takes one get away, with what was set for the one that went ahead of it.
func peeled(many int) api.Block {
	b := block(number(7))
	for value := 1; len(b.Ops) < many-2; value = len(b.Ops) - 1 {
		b.Ops = append(b.Ops, setX(0, value), getX(0))
	}
	b.Ops = append(b.Ops, setX(0, 1), exit(68))
	return b
}

// edges are blocks at the edges of what is right.
func edges() []api.Block {
	chain := block(number(3))
	for k := 1; len(chain.Ops) < api.MaxOps-1; k++ {
		chain.Ops = append(chain.Ops, reckon(1+k%15, k, 1))
	}
	chain.Ops = append(chain.Ops, exitTo(api.MaxOps-2))
	unused := block(slices.Clone(chain.Ops[1 : api.MaxOps-1])...)
	unused.Ops = append(unused.Ops, exitTo(1))
	gets := block(slices.Repeat([]api.Op{getX(30)}, api.MaxOps-2)...)
	gets.Ops = append(gets.Ops, exitTo(api.MaxOps-2))
	ats := block(slices.Repeat([]api.Op{at(math.MaxUint64 - 3)}, api.MaxOps-2)...)
	ats.Ops = append(ats.Ops, exit(math.MaxUint64))
	fences := block(slices.Repeat([]api.Op{fence(api.FenceFull)}, api.MaxOps-2)...)
	fences.Ops = append(fences.Ops, guest(math.MaxUint32))
	ends := uint64(math.MaxUint64 - 3)
	return []api.Block{
		chain, unused, gets, ats, fences, peeled(api.MaxOps), block(exit(0)), block(guest(0)),
		{PC: 0, Words: 16, EL: 0, Ops: []api.Op{at(0), getSP(), setSP(1), getSP(), exitTo(3)}},
		{PC: ends, Words: 1, EL: 1, Ops: []api.Op{at(ends), getSP(), exitTo(1)}},
	}
}

// P19.1, P19.2, P19.3: blocks of one operation beside the first one, and of as many as there may be.
func TestEdges(t *testing.T) {
	c := chance{rand.New(rand.NewSource(191)), 3, 8}
	many := []int{}
	for _, b := range edges() {
		seen(t, b)
		many = append(many, len(told(t, b).Ops))
		for range 3 {
			doesTheSame(t, b, c.core(b.EL), c.gots(8))
		}
	}
	if want := []int{api.MaxOps, 3, 3, 3, api.MaxOps, 4, 2, 2, 5, 3}; !slices.Equal(many, want) {
		t.Error(many, want)
	}
}

// P3: what is handed in stays, what stands behind it in its array too; what is told is new memory, with its spare room.
func TestNothingIsShared(t *testing.T) {
	c := chance{rand.New(rand.NewSource(192)), 3, 8}
	spoil := func(x api.Block, list []bool) {
		ops, list := x.Ops[:cap(x.Ops)], list[:cap(list)]
		for k := range ops {
			ops[k] = api.Op{Kind: 77, R: 77, A: 77, B: 77, Order: 77, Imm: 77}
		}
		for k := range list {
			list[k] = !list[k]
		}
	}
	for k := range 3000 {
		b := c.block(2 + c.Intn(20))
		if k%3 == 0 {
			b = told(t, b) // all of which is seen
		}
		room := append(slices.Clone(b.Ops), slices.Repeat([]api.Op{{Kind: 99}}, 8)...)
		b.Ops = room[:len(b.Ops)]
		was, want, wantSeen := slices.Clone(room), told(t, b), seen(t, b)
		first, _ := dead.Block(b)
		firstSeen, _ := dead.Seen(b)
		second, _ := dead.Block(b)
		secondSeen, _ := dead.Seen(b)
		spoil(first, firstSeen)
		if !slices.Equal(room, was) || !reflect.DeepEqual(second, want) || !slices.Equal(secondSeen, wantSeen) {
			t.Fatalf("%+v", b)
		}
		spoil(b, nil)
		if !reflect.DeepEqual(second, want) {
			t.Fatalf("%+v", second)
		}
	}
}

// P4: of the same block the same is told, whatever others were asked between.
func TestAlwaysTheSame(t *testing.T) {
	c := chance{rand.New(rand.NewSource(193)), 4, 8}
	for range 500 {
		b := c.block(2 + c.Intn(40))
		x, list := told(t, b), seen(t, b)
		for range 5 {
			told(t, c.block(2+c.Intn(40)))
			if !reflect.DeepEqual(told(t, b), x) || !slices.Equal(seen(t, b), list) {
				t.Fatal(text(b))
			}
		}
	}
}
