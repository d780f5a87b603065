package fold_test

import (
	"math"
	"math/rand"
	"slices"
	"testing"

	"understudy/api"
)

// P18.2: blocks by chance: nothing is left of what may not be, and nothing is more that may not be more.
func TestSimpleByChance(t *testing.T) {
	much := 0
	eachByChance(1821, func(_ chance, b api.Block) {
		if leftover(b) != "" {
			much++
		}
		isSimple(t, b)
	})
	if much < 10000 {
		t.Error(much)
	}
}

// P18.2: each kind of reckoning of two IConsts is an IConst of what alu reckons; numbers written out hold the edges.
func TestReckonedAtOnce(t *testing.T) {
	numbers := []uint64{0, 1, 2, 5, 63, 64, 65, math.MaxInt64, 1 << 63, math.MaxUint64}
	for kind := api.AAdd; kind <= api.ASlt; kind++ {
		for _, a := range numbers {
			for _, b := range numbers {
				x := folded(t, block(number(a), number(b), reckon(kind, 1, 2), setX(3, 3), exit(68)))
				if o := of(t, x, api.ISetX, 3); o != number(reckoned(t, kind, a, b)) {
					t.Error(kind, a, b, o)
				}
			}
		}
	}
	for _, row := range []struct {
		kind       int
		a, b, want uint64
	}{
		{api.AAdd, math.MaxUint64, 2, 1}, {api.ASub, 2, 3, math.MaxUint64}, {api.AMul, 1 << 63, 2, 0}, {api.AUdiv, 7, 0, 0}, {api.AUdiv, 7, 2, 3},
		{api.ASdiv, 1 << 63, math.MaxUint64, 1 << 63}, {api.ASdiv, 7, 0, 0}, {api.AShl, 1, 65, 2}, {api.AShr, 1 << 63, 63, 1}, {api.ASar, 1 << 63, 63, math.MaxUint64},
		{api.ARor, 1, 1, 1 << 63}, {api.AEq, 3, 3, 1}, {api.AUlt, math.MaxUint64, 0, 0}, {api.ASlt, math.MaxUint64, 0, 1}, {api.AAnd, 6, 3, 2}, {api.AOr, 6, 3, 7}, {api.AXor, 6, 3, 5},
	} {
		x := folded(t, block(number(row.a), number(row.b), reckon(row.kind, 1, 2), setX(3, 3), exit(68)))
		if o := of(t, x, api.ISetX, 3); o != number(row.want) {
			t.Error(row, o)
		}
	}
}

// P18.2: an IAlu of one IConst alone, or of none, stays; one that uses a reckoned one, or one that was set and got, is reckoned too.
func TestReckonedThrough(t *testing.T) {
	for _, pair := range [][2]int{{1, 2}, {2, 1}, {2, 2}} {
		x := folded(t, block(number(3), getX(1), reckon(api.AAdd, pair[0], pair[1]), setX(0, 3), exit(68)))
		if o := of(t, x, api.ISetX, 0); o.Kind != api.IAlu {
			t.Error(text(x))
		}
	}
	through := folded(t, block(
		number(3), reckon(api.AMul, 1, 1), setX(5, 2), getX(5), setSP(4), getSP(), // 6
		reckon(api.AAdd, 6, 1), number(12), reckon(api.AEq, 7, 8), setF(2, 9), getF(2), // 11
		reckon(api.AAdd, 11, 7), setX(0, 12), exit(68)))
	if o := of(t, through, api.ISetX, 0); o != number(13) || has(through, api.IAlu) || has(through, api.IGetX) || has(through, api.IGetSP) || has(through, api.IGetF) {
		t.Error(text(through))
	}
}

// P18.2: a register that is known is not got again, behind an access, a fence, an IAt, an IExitIf either; each by itself.
func TestKnownRegisters(t *testing.T) {
	between := []api.Op{load(1, api.OAcq), storeEx(1, 1, api.ORel), fence(api.FenceFull), at(68), exitIf(1, 4), setX(9, 1), setF(0, 1), number(7)}
	for r := range 31 {
		ops := append([]api.Op{getX(8), getX(r)}, between...)
		ops = append(ops, getX(r), setX(r, 1), getX(r), setX(20, len(ops)+1), setX(21, len(ops)+3), exit(68))
		b := block(ops...)
		x := folded(t, b)
		isSimple(t, b)
		want := getX(r)
		if r == 9 { // one of those between has set it
			want = getX(8)
		}
		if o := of(t, x, api.ISetX, 20); o != want {
			t.Errorf("%d: %v\n%s", r, o, text(x))
		}
		if o := of(t, x, api.ISetX, 21); o != getX(8) {
			t.Errorf("%d: %v\n%s", r, o, text(x))
		}
	}
	apart := folded(t, block(number(1), setX(0, 1), setX(1, 1), setX(2, 1), setX(3, 1), getSP(), getF(0), getF(1), getF(2), getF(3), getX(4), setSP(1), getX(5), exit(68)))
	for _, o := range []api.Op{getSP(), getF(0), getF(1), getF(2), getF(3), getX(4), getX(5)} {
		if !slices.Contains(apart.Ops, o) {
			t.Error(o, text(apart))
		}
	}
	pointer := folded(t, block(getSP(), fence(api.FenceLd), getSP(), setX(0, 3), getX(7), setSP(5), load(5, 0), getSP(), setX(1, 8), exit(68)))
	if of(t, pointer, api.ISetX, 0) != getSP() || of(t, pointer, api.ISetX, 1) != getX(7) {
		t.Error(text(pointer))
	}
}

// flagBlock is a flag set to the last one of some operations, and got twice, the second one for X20; it is at 64.
func flagBlock(r int, ops ...api.Op) api.Block {
	n := len(ops)
	return block(append(slices.Clone(ops), setF(r, n), fence(api.FenceFull), getF(r), at(68), getF(r), setX(20, n+5), exit(68))...)
}

// P18.2: a flag is known by a value that is 0 or 1; of another one it is got once, and known from then on.
func TestKnownFlags(t *testing.T) {
	for r := range 4 {
		other := (r + 1) % 4
		known := [][]api.Op{
			{number(0)}, {number(1)}, {getF(other)}, {getF(r)}, {getX(0), reckon(api.AEq, 1, 1)}, {getX(0), reckon(api.AUlt, 1, 1)}, {getX(0), reckon(api.ASlt, 1, 1)},
			{number(3), number(2), reckon(api.ASub, 1, 2)}, {number(1), setX(4, 1), getX(4)},
		}
		for _, ops := range known {
			b := flagBlock(r, ops...)
			x := folded(t, b)
			isSimple(t, b)
			if o := of(t, x, api.ISetX, 20); o != of(t, x, api.ISetF, r) {
				t.Errorf("%d: %v\n%s", r, o, text(x))
			}
		}
		for _, ops := range [][]api.Op{{number(2)}, {number(math.MaxUint64)}, {number(1 << 32)}, {number(1<<32 + 1)}, {getX(0)}, {getSP()}, {number(8), load(1, 0)}, {getX(0), reckon(api.AAnd, 1, 1)}, {getX(0), reckon(api.ARor, 1, 1)}} {
			b := flagBlock(r, ops...)
			x := folded(t, b)
			isSimple(t, b)
			if o := of(t, x, api.ISetX, 20); o != getF(r) && o != number(1) { // of a number, the one that the flag is might be told
				t.Errorf("%d: %v\n%s", r, o, text(x))
			}
			c := chance{rand.New(rand.NewSource(int64(r))), 3, 4}
			for range 10 {
				doesTheSame(t, b, c.core(1), c.gots(2))
			}
		}
	}
}

// P18.2: what was known of a flag is not known any more, once it was set to a value that might be neither 0 nor 1.
func TestForgottenFlag(t *testing.T) {
	b := block(getF(2), number(1), setF(2, 2), getX(0), setF(2, 4), getF(2), setX(1, 6), setF(2, 1), getF(2), setX(2, 9), exit(68))
	x := folded(t, b)
	if of(t, x, api.ISetX, 1) != getF(2) || of(t, x, api.ISetX, 2) != getF(2) || of(t, x, api.ISetX, 1) == number(1) {
		t.Error(text(x))
	}
	c := api.Core{EL: 1}
	for _, value := range []uint64{0, 1, 2, 1 << 32, 1 << 63} {
		c.X[0] = value
		d := doesTheSame(t, b, c, []api.Got{{}})
		if want := min(value, 1); d.core.X[1] != want || d.core.X[2] != 0 {
			t.Error(value, d.core.X[:3])
		}
	}
}

// P18.2: an IExitIf of a number that is not 0: the block ends there, with an IExit to where it led; what is ahead stays, and no more.
func TestExitAlways(t *testing.T) {
	for _, n := range []uint64{1, 2, 1 << 32, 1 << 63, math.MaxUint64} {
		for _, last := range []api.Op{exit(68), exitTo(1), guest(7)} {
			b := block(number(n), setX(0, 1), exitIf(1, 100), setX(1, 1), at(72), fence(api.FenceSt), getX(5), exitIf(7, 104), last)
			if x := folded(t, b); !slices.Equal(x.Ops, block(number(n), setX(0, 1), exit(100)).Ops) {
				t.Error(n, text(x))
			}
			if d := doesTheSame(t, b, api.Core{EL: 1}, []api.Got{{}}); d.core.PC != 100 || d.core.X[0] != n || d.guest {
				t.Error(n, d)
			}
		}
	}
	for _, to := range []uint64{0, 1, 66, math.MaxUint64} { // it may lead to any address
		if x := folded(t, block(number(1), exitIf(1, to), guest(0))); x.Ops[len(x.Ops)-1] != exit(to) {
			t.Error(to, text(x))
		}
	}
}

// P18.2: an IExitIf of 0 is gone, and nothing else; one of a value that is no IConst stays, of a flag and of what is loaded too.
func TestExitNever(t *testing.T) {
	b := block(number(0), exitIf(1, 100), getX(1), exitIf(1, 104), exitIf(3, 108), load(3, 0), exitIf(6, 112), getF(0), exitIf(8, 116), exitIf(1, 120), setX(0, 1), guest(7))
	want := block(number(0), getX(1), exitIf(2, 108), load(2, 0), exitIf(4, 112), getF(0), exitIf(6, 116), setX(0, 1), guest(7))
	if x := folded(t, b); !slices.Equal(x.Ops, want.Ops) {
		t.Error(text(x))
	}
	c := chance{rand.New(rand.NewSource(1822)), 3, 4}
	for range 50 {
		doesTheSame(t, b, c.core(1), c.gots(3))
	}
}

// P18.2: an IExitIf of what comes to be an IConst is done with, too: of what is reckoned, set and got.
func TestExitOfReckoned(t *testing.T) {
	for _, n := range []uint64{4, 5} {
		b := block(
			number(n), setX(2, 1), getX(2), number(5), reckon(api.AEq, 3, 4), setF(1, 5), getF(1), exitIf(7, 100), // 8
			getX(9), exitIf(9, 104), exitIf(7, 108), exit(68))
		x := folded(t, b)
		exits := slices.DeleteFunc(slices.Clone(x.Ops), func(o api.Op) bool { return o.Kind != api.IExitIf && o.Kind != api.IExit })
		if n == 5 && !slices.Equal(exits, []api.Op{exit(100)}) {
			t.Error(text(x))
		}
		if n == 4 && (len(exits) != 2 || exits[0].Imm != 104 || exits[1] != exit(68)) {
			t.Error(text(x))
		}
		isSimple(t, b)
	}
}

// P18.2: of IAts, accesses, fences, exits and IGuests all are there, in their order, up to an IExit that comes ahead of them.
func TestAllThatIsSeenStays(t *testing.T) {
	c := chance{rand.New(rand.NewSource(1823)), 2, 10}
	for range 5000 {
		b := c.block(2 + c.Intn(40))
		was, is := outside(b), outside(folded(t, b))
		if last := is[len(is)-1]; len(is) < len(was) && last.Kind == api.IExit {
			is = is[:len(is)-1]
		}
		for _, o := range is {
			k := slices.Index(was, o)
			if k < 0 || slices.ContainsFunc(was[:k], func(o api.Op) bool { return o.Kind != api.IExitIf }) {
				t.Fatal(o, was, is, text(b))
			}
			was = was[k+1:]
		}
	}
}

// outside is what a block does but to registers and values, without the places of values.
func outside(b api.Block) []api.Op {
	var out []api.Op
	for _, o := range b.Ops {
		switch o.Kind {
		case api.ILoad, api.IStore, api.ILoadEx, api.IStoreEx, api.IFence, api.IAt, api.IExitIf, api.IExit, api.IExitTo, api.IGuest:
			o.A, o.B = 0, 0
			out = append(out, o)
		}
	}
	return out
}
