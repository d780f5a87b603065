package ir_test

import (
	"math"
	"math/rand"
	"slices"
	"testing"

	"understudy/api"
	"understudy/ir"
)

// P16.1: of each kind an operation as it may be is right, in a block that has nothing else to ask.
func TestRightOfEachKind(t *testing.T) {
	var ops []api.Op
	for r := range 31 {
		ops = append(ops, getX(r), setX(r, 1))
	}
	for r := range 4 {
		ops = append(ops, getF(r), setF(r, 1))
	}
	for r := api.AAdd; r <= api.ASlt; r++ {
		ops = append(ops, reckon(r, 1, 2), reckon(r, 2, 2))
	}
	ops = append(ops, number(0), number(math.MaxUint64), getSP(), setSP(2))
	ops = append(ops, load(1, api.OPlain), load(1, api.OAcqPC), load(1, api.OAcq), loadEx(1, api.OPlain), loadEx(1, api.OAcq))
	ops = append(ops, store(1, 2, api.OPlain), store(1, 2, api.ORel), storeEx(1, 2, api.OPlain), storeEx(1, 2, api.ORel))
	ops = append(ops, fence(api.FenceLd), fence(api.FenceSt), fence(api.FenceFull), at(0), at(math.MaxUint64-3), exitIf(1, 0), exitIf(2, math.MaxUint64))
	for _, o := range ops {
		if !ir.Right(block(number(1), getX(0), o, exit(0))) {
			t.Error(o)
		}
	}
	for _, last := range []api.Op{exit(0), exit(3), exit(math.MaxUint64), exitTo(1), exitTo(2), guest(0), guest(math.MaxUint32)} {
		if !ir.Right(block(number(1), getX(0), last)) {
			t.Error(last)
		}
	}
}

// P16.1: a field that is out of its range, or that the kind does not have.
func TestRightWrongFields(t *testing.T) {
	var ops []api.Op
	for _, n := range odd() {
		ops = append(ops, getF(n), setF(n, 1), reckon(n, 1, 2), load(1, n), store(1, 2, n), loadEx(1, n), storeEx(1, 2, n), fence(n), setX(0, n), setSP(n), reckon(1, n, 1), reckon(1, 1, n))
		ops = append(ops, api.Op{Kind: n}, api.Op{Kind: n, A: 1, B: 1})
	}
	ops = append(ops, getX(-1), getX(31), getX(32), setX(-1, 1), setX(31, 1), setX(1<<32, 1), getF(4), setF(4, 1), reckon(0, 1, 2), reckon(16, 1, 2))
	ops = append(ops, load(1, 3), load(1, 4), load(1, 6), loadEx(1, 1), loadEx(1, 3), loadEx(1, 4), store(1, 2, 1), store(1, 2, 2), store(1, 2, 3), store(1, 2, 6), storeEx(1, 2, 1), storeEx(1, 2, 2), storeEx(1, 2, 5))
	for n := range 18 {
		if n != api.FenceLd && n != api.FenceSt && n != api.FenceFull {
			ops = append(ops, fence(n))
		}
	}
	ops = append(ops, at(1), at(2), at(3), at(66), at(math.MaxUint64), at(1<<32+2), api.Op{})
	for _, o := range ops {
		if b := block(number(1), getX(0), o, exit(0)); ir.Right(b) || isRight(b) {
			t.Error(o)
		}
	}
	for _, last := range []api.Op{guest(1 << 32), guest(1<<32 + 1), guest(1 << 63), guest(math.MaxUint64), exitTo(0), exitTo(3), exitTo(-1), exitTo(1 << 32), exitTo(math.MinInt)} {
		if ir.Right(block(number(1), getX(0), last)) {
			t.Error(last)
		}
	}
}

// P16.1: A and B name what stands ahead, and defines a value: not the operation itself, nor one behind it, nor one that defines none.
func TestRightPlaces(t *testing.T) {
	ahead := []api.Op{number(8), setX(0, 1), getX(0), setSP(3), getSP(), setF(0, 5), getF(0), reckon(1, 1, 3), load(1, 0), store(1, 1, 0), loadEx(1, 0), storeEx(1, 1, 0), fence(13), at(68), exitIf(1, 0)}
	defines := []int{1, 3, 5, 7, 8, 9, 11, 12}
	for place := -1; place < 20; place++ {
		want := slices.Contains(defines, place)
		for _, o := range []api.Op{setX(3, place), setSP(place), setF(2, place), reckon(1, place, 1), reckon(1, 1, place), load(place, 0), loadEx(place, 2), store(place, 1, 0), store(1, place, 4), storeEx(place, 1, 0), storeEx(1, place, 4), exitIf(place, 4)} {
			b := block(append(slices.Clone(ahead), o, number(9), number(9), exit(0))...)
			if ir.Right(b) != want {
				t.Error(place, o)
			}
		}
		if ir.Right(block(append(slices.Clone(ahead), exitTo(place))...)) != want {
			t.Error("exitto", place)
		}
	}
}

// P16.1: what is asked of the block itself.
func TestRightHead(t *testing.T) {
	refused := func(what string, b api.Block) {
		t.Helper()
		if ir.Right(b) {
			t.Error(what, b.PC, b.Words, b.EL, len(b.Ops))
		}
	}
	for _, n := range append(odd(), 0, 17, 18) {
		b := example()
		b.Words = n
		refused("words", b)
	}
	for _, n := range append(odd(), 2, 3) {
		b := example()
		b.EL = n
		refused("level", b)
	}
	for _, pc := range []uint64{1, 2, 3, 65, 66, 67, math.MaxUint64, 1<<63 + 2} {
		refused("pc", api.Block{PC: pc, Words: 1, Ops: []api.Op{at(pc), exit(0)}})
		refused("pc", api.Block{PC: pc, Words: 1, Ops: []api.Op{at(pc &^ 3), exit(0)}})
	}
	for words := 1; words <= 16; words++ {
		for el := range 2 {
			for _, pc := range []uint64{0, 4, 64, 1 << 32, math.MaxUint64 - 3} {
				if b := (api.Block{PC: pc, Words: words, EL: el, Ops: []api.Op{at(pc), exit(0)}}); !ir.Right(b) {
					t.Error(b)
				}
			}
		}
	}
	refused("nothing", api.Block{})
	refused("no operation", api.Block{PC: 64, Words: 1, EL: 1})
	refused("no operation", api.Block{PC: 64, Words: 1, EL: 1, Ops: []api.Op{}})
}

// P16.1: the first operation is an IAt of the PC; the last one, and no other one, is an end.
func TestRightFirstAndLast(t *testing.T) {
	for _, ops := range [][]api.Op{
		{at(64)}, {exit(0)}, {guest(0)}, {at(68), exit(0)}, {at(0), exit(0)}, {number(64), exit(0)}, {number(1), at(64), exit(0)}, {fence(13), exit(0)},
		{at(64), at(68)}, {at(64), number(1)}, {at(64), number(1), exitIf(1, 0)}, {at(64), fence(15)}, {at(64), getX(1), load(1, 0)},
		{at(64), exit(0), exit(0)}, {at(64), exit(0), number(1)}, {at(64), guest(0), exit(0)}, {at(64), number(1), exitTo(1), exit(0)}, {at(64), number(1), exit(4), exitTo(1)}, {at(64), guest(1), guest(1)},
		{exit(0), at(64), exit(0)}, {guest(64), exit(0)}, {{Kind: api.IAt, Imm: 64, R: 1}, exit(0)}, {{Kind: api.IAt, Imm: 64, A: 1}, exit(0)},
	} {
		if b := (api.Block{PC: 64, Words: 1, EL: 1, Ops: ops}); ir.Right(b) {
			t.Error(ops)
		}
	}
}

// P16.1: 2 to 512 operations may be (one alone would have to be the first and the last one).
func TestRightLong(t *testing.T) {
	for many, want := range map[int]bool{1: false, 2: true, 3: true, 511: true, 512: true, 513: false, 514: false, 1024: false, 100000: false} {
		b := block()
		for len(b.Ops) < many-1 {
			b.Ops = append(b.Ops, number(uint64(many)))
		}
		if many > 1 {
			b.Ops = append(b.Ops, exit(0))
		}
		if len(b.Ops) != many || ir.Right(b) != want {
			t.Error(many, len(b.Ops))
		}
		if _, e := ir.New(b, full()); (e == api.OK) != want {
			t.Error(many, e)
		}
		if _, e := ir.Text(b); (e == api.OK) != want {
			t.Error(many, e)
		}
	}
}

// P16.1: all operations of some numbers in each field, last or last but one, as the table has them.
func TestRightAllFields(t *testing.T) {
	known := rows()
	ahead := []api.Op{at(64), number(8), setX(0, 1)}
	kinds := []int{-1, 19, 1 << 32}
	for kind := range 19 {
		kinds = append(kinds, kind)
	}
	yes, no := 0, 0
	for _, kind := range kinds {
		for _, r := range []int{-1, 0, 1, 3, 4, 10, 13, 15, 16, 30, 31} {
			for _, a := range []int{-1, 0, 1, 2, 3} {
				for _, b := range []int{-1, 0, 1, 2, 3} {
					for _, order := range []int{-1, 0, 1, 2, 3, 4} {
						for _, imm := range []uint64{0, 2, 64, 1<<32 - 1, 1 << 32} {
							o := api.Op{Kind: kind, R: r, A: a, B: b, Order: order, Imm: imm}
							for _, ops := range [][]api.Op{{o}, {o, exit(4)}} {
								it := api.Block{PC: 64, Words: 1, Ops: append(ahead[:3:3], ops...)}
								want := mayBe(o, ahead, known) && (kind > 15) == (len(ops) == 1)
								if ir.Right(it) != want {
									t.Fatal(it.Ops)
								}
								if want {
									yes++
								} else {
									no++
								}
							}
						}
					}
				}
			}
		}
	}
	if yes < 50 || no < 50 {
		t.Error(yes, no)
	}
}

// P16.1: blocks by chance are right; one of whose fields is another one, just as the chapter says.
func TestRightByChance(t *testing.T) {
	r := rand.New(rand.NewSource(161))
	yes, no := 0, 0
	for range 20000 {
		b := byChance(r, 2+r.Intn(12))
		if !ir.Right(b) || !isRight(b) {
			t.Fatal(b)
		}
		o := &b.Ops[r.Intn(len(b.Ops))]
		n := r.Intn(20) - 1
		if r.Intn(8) == 0 {
			n = odd()[r.Intn(len(odd()))]
		}
		switch r.Intn(9) {
		case 0:
			b.PC = uint64(n)
		case 1:
			b.Words = n
		case 2:
			b.EL = n
		case 3:
			o.Kind = n
		case 4:
			o.R = n
		case 5:
			o.A = n
		case 6:
			o.B = n
		case 7:
			o.Order = n
		case 8:
			o.Imm = uint64(n)
		}
		want := isRight(b)
		if ir.Right(b) != want {
			t.Fatal(b, want)
		}
		if want {
			yes++
		} else {
			no++
		}
	}
	if yes < 1000 || no < 1000 {
		t.Error(yes, no)
	}
}

// P16.1: Defines, Leaves and Uses go by the kind alone, and tell A and B as they are.
func TestKinds(t *testing.T) {
	known := rows()
	kinds := odd()
	for kind := -3; kind < 40; kind++ {
		kinds = append(kinds, kind)
	}
	for _, kind := range kinds {
		row := known[kind] // of a kind that is none: nothing
		for _, o := range []api.Op{{}, {R: 1, A: 1, B: 2, Order: 4, Imm: 4}, {R: -5, A: -7, B: math.MinInt, Order: 9, Imm: math.MaxUint64}, {R: 99, A: math.MaxInt, B: math.MaxInt, Order: -1}} {
			o.Kind = kind
			if ir.Defines(o) != row.defines || ir.Leaves(o) != row.leaves {
				t.Error(o, ir.Defines(o), ir.Leaves(o))
			}
			var want []int
			if row.has("A") {
				want = append(want, o.A)
			}
			if row.has("B") {
				want = append(want, o.B)
			}
			if got := ir.Uses(o); !slices.Equal(got, want) {
				t.Error(o, got)
			}
		}
	}
}

// P16.1: the kinds that Defines and Leaves are true of, written out.
func TestKindsWrittenOut(t *testing.T) {
	var defines, leaves []int
	for kind := range 64 {
		if ir.Defines(api.Op{Kind: kind}) {
			defines = append(defines, kind)
		}
		if ir.Leaves(api.Op{Kind: kind}) {
			leaves = append(leaves, kind)
		}
	}
	if !slices.Equal(defines, []int{1, 2, 4, 6, 8, 9, 11, 12}) || !slices.Equal(leaves, []int{9, 10, 11, 12, 15, 16, 17, 18}) {
		t.Error(defines, leaves)
	}
}

// P3: what Uses tells is new memory.
func TestUsesNew(t *testing.T) {
	o := reckon(1, 5, 6)
	one, two := ir.Uses(o), ir.Uses(o)
	one[0], one[1] = 99, 99
	for k := range one[:cap(one)] {
		one[:cap(one)][k] = 77
	}
	if !slices.Equal(two, []int{5, 6}) || !slices.Equal(ir.Uses(o), []int{5, 6}) {
		t.Error(two, ir.Uses(o))
	}
}
