package dead_test

import (
	"math/rand"
	"reflect"
	"slices"
	"testing"

	"understudy/api"
	"understudy/dead"
	"understudy/fold"
	"understudy/ir"
	"understudy/lift"
)

// P19.3: blocks by chance do the same, on states by chance, and whatever comes of what is wanted.
func TestSameByChance(t *testing.T) {
	faults, guests, others, waits := 0, 0, 0, 0
	eachByChance(1931, func(c chance, b api.Block) {
		d := doesTheSame(t, b, c.core(b.EL), c.gots(16))
		waits += len(d.wants)
		switch {
		case d.faulted:
			faults++
		case d.guest:
			guests++
		default:
			others++
		}
	})
	if faults < 1000 || guests < 1000 || others < 1000 || waits < 20000 {
		t.Error(faults, guests, others, waits)
	}
}

// small are the operations that the small blocks are made of: what they use are the values that are there.
func small(values []int) []api.Op {
	out := []api.Op{number(8), getX(1), getF(1), at(68), fence(api.FenceFull)}
	for _, a := range values {
		out = append(out, setX(1, a), setX(2, a), setF(1, a), load(a, 0), exitIf(a, 4), reckon(api.AAdd, a, values[0]))
	}
	return out
}

// eachSmall tells all blocks of the operations of small, so many of them between the first and the last one.
func eachSmall(many int, tell func(api.Block)) {
	var more func(ops []api.Op, values []int)
	more = func(ops []api.Op, values []int) {
		if len(ops) == many+1 {
			tell(api.Block{PC: 64, Words: 2, EL: 1, Ops: append(ops[:len(ops):len(ops)], exit(68))})
			return
		}
		for _, o := range small(values) {
			now := values
			if ir.Defines(o) {
				now = append(values[:len(values):len(values)], len(ops))
			}
			more(append(ops[:len(ops):len(ops)], o), now)
		}
	}
	more([]api.Op{at(64)}, nil)
}

// P19.1, P19.2, P19.3: all blocks of up to five small operations.
func TestAllSmallBlocks(t *testing.T) {
	c := api.Core{EL: 1, PC: 64, Z: true}
	c.X[1], c.X[2] = 40, 3
	many := 0
	for size := range 6 {
		eachSmall(size, func(b api.Block) {
			many++
			seen(t, b)
			doesTheSame(t, b, c, []api.Got{{Value: 1}, {Value: 48}})
		})
	}
	if many < 150000 {
		t.Error(many)
	}
}

// P19.3: at an access the state is the same, at a fence but for what is set anew behind it, ahead of what leaves.
func TestStateAtEachWant(t *testing.T) {
	b := block(
		number(8), setX(0, 1), setX(1, 1), setSP(1), setF(0, 1), at(68), fence(api.FenceFull), // 7
		number(16), setX(0, 8), setSP(8), at(72), load(8, 0), setX(1, 8), exit(76),
	)
	c := api.Core{EL: 1, PC: 64}
	doesTheSame(t, b, c, []api.Got{{}})
	x, err := dead.Block(b)
	if err != api.OK {
		t.Fatal(err)
	}
	d := byRun(t, x, c, []api.Got{{Value: 5}})
	if len(d.states) != 2 || d.wants[0].Kind != api.WFence || d.wants[1].Addr != 16 {
		t.Fatal(d.wants)
	}
	atFence, atLoad := d.states[0], d.states[1]
	if atFence.X[0] != 0 || atFence.X[1] != 8 || atFence.SP[1] != 0 || !atFence.N || atFence.PC != 64 {
		t.Error(atFence)
	}
	if atLoad.X[0] != 16 || atLoad.X[1] != 8 || atLoad.SP[1] != 16 || !atLoad.N || atLoad.PC != 72 {
		t.Error(atLoad)
	}
	if d.core.X[1] != 16 || d.core.PC != 76 {
		t.Error(d.core)
	}
}

// P19.3: what was set ahead of an access that faults, or of an exit that is taken, is there.
func TestLeftEarly(t *testing.T) {
	leave, _ := between()
	for _, p := range pairs() {
		for _, o := range leave {
			b := block(number(8), p.set, at(68), o, number(0), p.set, at(72), exit(76))
			b.Ops[6].A = 5
			for _, got := range []api.Got{{Fault: api.Outside}, {Value: 3, Ok: true}} {
				d := doesTheSame(t, b, api.Core{EL: 1, PC: 64}, []api.Got{got})
				if left := got.Fault != 0 || o.Kind == api.IExitIf; left == (d.core.PC == 76) {
					t.Error(p, o, got, d.core.PC)
				}
			}
		}
	}
}

// P19.3: Block of Block is Block, and takes no access, fence or exit away: they are all there, in their order.
func TestItselfByChance(t *testing.T) {
	outside := func(b api.Block) []api.Op {
		out := slices.DeleteFunc(slices.Clone(b.Ops), func(o api.Op) bool { return !stays(o) })
		for k := range out {
			out[k].A, out[k].B = 0, 0
		}
		return out
	}
	many := 0
	eachByChance(1933, func(_ chance, b api.Block) {
		x, err := dead.Block(b)
		again, errAgain := dead.Block(x)
		if err != api.OK || errAgain != api.OK || !reflect.DeepEqual(x, again) {
			t.Fatalf("%v, %v\n%s\nof\n%s", err, errAgain, text(again), text(x))
		}
		if list, err := dead.Seen(x); err != api.OK || slices.Contains(list, false) || len(list) != len(x.Ops) {
			t.Fatalf("%v, %v of\n%s", err, list, text(x))
		}
		if was, is := outside(b), outside(x); !slices.Equal(was, is) {
			t.Fatalf("%v, not %v", is, was)
		}
		many += len(outside(b))
	})
	if many < 60000 {
		t.Error(many)
	}
}

// P19.3: what lift tells of words by chance, and what fold makes of that, does the same.
func TestSameOfLifted(t *testing.T) {
	c := chance{rand.New(rand.NewSource(1934)), 3, 8}
	ops, less := 0, 0
	for range 2000 {
		pc, el := c.Uint64()&^3, c.Intn(2)
		b, err := lift.Block(pc, el, func(addr uint64) (uint32, bool) { return c.word(), c.Intn(12) > 0 || addr == pc })
		if err != api.OK {
			t.Fatal(err)
		}
		simple, err := fold.Block(b)
		if err != api.OK {
			t.Fatal(err)
		}
		for _, x := range []api.Block{b, simple} {
			seen(t, x)
			doesTheSame(t, x, c.core(el), c.gots(16))
		}
		ops, less = ops+len(b.Ops), less+len(b.Ops)-len(told(t, simple).Ops)
	}
	if ops < 20000 || less < 5000 {
		t.Error(ops, less)
	}
}

// word is an instruction on few registers: ADDS, SUBS, AND, EOR, LSL, CSEL, CSINC, MOVZ, LDR, STR, LDXR, STXR, ADD SP, DMB, CBZ, B.cond.
func (c chance) word() uint32 {
	d, n, m := uint32(c.Intn(4)), uint32(c.Intn(4)), uint32(c.Intn(4))
	if c.Intn(8) == 0 {
		n = 31
	}
	cond := uint32(c.Intn(16)) << 12
	forms := []uint32{
		0xAB000000 | m<<16, 0xEB000000 | m<<16, 0xB1000000 | m<<10, 0xF1000000 | m<<10, 0x8A000000 | m<<16, 0xCA000000 | m<<16, 0xEA000000 | m<<16,
		0x9AC02000 | m<<16, 0x9A800000 | m<<16 | cond, 0x9A800400 | m<<16 | cond, 0xF9400000 | m<<10, 0xF9000000 | m<<10,
		0xC85F7C00, 0xC8007C00 | m<<16,
	}
	switch c.Intn(12) {
	case 0:
		return 0xD2800000 | m<<5 | d
	case 1:
		return []uint32{0x91000000 | n<<5 | 31 | m<<10, 0xD5033FBF, 0xD50339BF, 0xD503201F}[c.Intn(4)]
	case 2:
		return []uint32{0xB4000040 | d, 0xB5000040 | d, 0x54000040 | cond>>12, 0xD65F03C0, 0xD4000001, 0x14000010}[c.Intn(6)]
	}
	return forms[c.Intn(len(forms))] | n<<5 | d
}
