package fold_test

import (
	"math/rand"
	"testing"

	"understudy/api"
	"understudy/lift"
)

// P18.1: blocks by chance do the same, on states by chance, and whatever comes of what is wanted.
func TestSameByChance(t *testing.T) {
	faults, guests, others, waits, changes := 0, 0, 0, 0, 0
	eachByChance(1811, func(c chance, b api.Block) {
		for range 3 {
			d := doesTheSame(t, b, c.core(b.EL), c.gots(16))
			waits += len(d.wants)
			switch {
			case d.faulted:
				faults++
			case d.guest:
				guests++
			default:
				others++
			}
		}
		if _, changed := stepped(t, b); changed {
			changes++
		}
	})
	if faults < 2000 || guests < 2000 || others < 2000 || waits < 20000 || changes < 10000 || changes > 19500 {
		t.Error(faults, guests, others, waits, changes)
	}
}

// small are the operations that the small blocks are made of: what they use are the values that are there.
func small(values []int) []api.Op {
	out := []api.Op{number(0), number(1), number(8), getX(1), getSP(), getF(1)}
	for _, a := range values {
		out = append(out, setX(1, a), setSP(a), setF(1, a), load(a, 0), exitIf(a, 4), reckon(api.AAdd, a, values[0]), reckon(api.AEq, a, values[0]))
	}
	return out
}

// eachSmall tells all blocks of the operations of small, so many of them between the first and the last one.
func eachSmall(many int, tell func(api.Block)) {
	var more func(ops []api.Op, values []int)
	more = func(ops []api.Op, values []int) {
		if len(ops) == many+1 {
			b := api.Block{PC: 64, Words: 2, EL: 1, Ops: append(ops[:len(ops):len(ops)], exit(68))}
			tell(b)
			return
		}
		for _, o := range small(values) {
			now := values
			if o.Kind == api.IConst || o.Kind == api.IGetX || o.Kind == api.IGetSP || o.Kind == api.IGetF || o.Kind == api.IAlu || o.Kind == api.ILoad {
				now = append(values[:len(values):len(values)], len(ops))
			}
			more(append(ops[:len(ops):len(ops)], o), now)
		}
	}
	more([]api.Op{at(64)}, nil)
}

// P18.1, P18.2, P18.3: all blocks of up to four small operations, on states in which what is got differs.
func TestAllSmallBlocks(t *testing.T) {
	states := []api.Core{{EL: 1}, {EL: 1, Z: true}}
	states[0].X[1], states[0].SP = 8, [2]uint64{24, 16}
	states[1].X[1], states[1].SP = 1, [2]uint64{3, 0}
	gots := []api.Got{{Value: 1}, {Value: 40}}
	told := 0
	for many := range 5 {
		eachSmall(many, func(b api.Block) {
			told++
			for _, c := range states {
				doesTheSame(t, b, c, gots)
			}
			isSimple(t, b)
			isItself(t, b)
		})
	}
	if told < 30000 {
		t.Error(told)
	}
}

// P18.1: at each thing that is wanted the state is the same: what is set anew behind it is set ahead of it, too, and the PC is the last IAt's.
func TestStateAtEachWant(t *testing.T) {
	b := block(
		number(8), setX(0, 1), setX(0, 1), load(1, 0), // 4
		at(68), getX(0), number(3), setX(0, 7), setF(1, 7), setSP(7), fence(api.FenceFull), // 11
		at(72), at(76), number(5), setX(0, 14), setSP(14), getX(0), reckon(api.AEq, 17, 7), setF(1, 18), store(1, 17, api.ORel), // 20
		getX(0), setX(0, 1), exit(80),
	)
	var c api.Core
	c.EL, c.PC = 1, 64
	d := doesTheSame(t, b, c, []api.Got{{Value: 9}})
	if len(d.wants) != 3 {
		t.Fatal(d.wants)
	}
	wants := []api.Want{{Kind: api.WLoad, Addr: 8}, {Kind: api.WFence, Fence: api.FenceFull}, {Kind: api.WStore, Addr: 8, Value: 5, Rel: true}}
	x0, pc, sp, z := []uint64{8, 3, 5}, []uint64{64, 68, 76}, []uint64{0, 3, 5}, []bool{false, true, false}
	for k, s := range d.states {
		if d.wants[k] != wants[k] || s.X[0] != x0[k] || s.PC != pc[k] || s.SP[1] != sp[k] || s.Z != z[k] {
			t.Error(k, d.wants[k], s)
		}
	}
	for at := range 3 { // and the same if the one that is wanted there has a fault
		gots := make([]api.Got, 3)
		gots[at].Fault = api.Outside
		if d := doesTheSame(t, b, c, gots); d.faulted != (at != 1) {
			t.Error(at, d)
		}
	}
}

// P18.1: an access that nobody uses is wanted still, and one of an address that is no multiple of 8 leaves the block still.
func TestAccessesStay(t *testing.T) {
	for addr := range uint64(9) {
		accesses := []api.Op{load(1, 0), load(1, api.OAcqPC), load(1, api.OAcq), loadEx(1, 0), loadEx(1, api.OAcq), store(1, 1, 0), store(1, 1, api.ORel), storeEx(1, 1, 0), storeEx(1, 1, api.ORel)}
		for _, o := range accesses {
			b := block(number(addr), o, o, exit(68))
			d := doesTheSame(t, b, api.Core{EL: 1, PC: 64}, []api.Got{{Value: 7}, {Value: 6, Ok: true}})
			if isEight := addr%8 == 0; d.faulted == isEight || isEight && len(d.wants) != 2 || !isEight && len(d.wants) != 0 {
				t.Error(addr, o, d)
			}
			if x := folded(t, b); len(x.Ops) != len(b.Ops) {
				t.Error(text(x))
			}
		}
	}
}

// P18.1: what lift tells of words by chance does the same.
func TestSameOfLifted(t *testing.T) {
	c := chance{rand.New(rand.NewSource(1812)), 3, 4}
	ops, less := 0, 0
	for range 3000 {
		pc, el := c.Uint64()&^3, c.Intn(2)
		b, err := lift.Block(pc, el, func(addr uint64) (uint32, bool) { return c.word(), c.Intn(12) > 0 || addr == pc })
		if err != api.OK {
			t.Fatal(err)
		}
		for range 2 {
			doesTheSame(t, b, c.core(el), c.gots(16))
		}
		isSimple(t, b)
		isItself(t, b)
		ops, less = ops+len(b.Ops), less+len(b.Ops)-len(folded(t, b).Ops)
	}
	if ops < 30000 || less < 3000 {
		t.Error(ops, less)
	}
}

// word is an instruction on few registers: ADDS, SUBS, AND, EOR, LSL, CSEL, CSINC, MOVZ, LDR, STR, LDXR, STXR, ADD SP, DMB, CBZ, B.cond.
func (c chance) word() uint32 {
	d, n, m := uint32(c.Intn(4)), uint32(c.Intn(4)), uint32(c.Intn(4))
	if c.Intn(8) == 0 {
		n = 31
	}
	cond := uint32(c.Intn(16)) << 12
	those := []uint32{
		0xAB000000 | m<<16, 0xEB000000 | m<<16, 0xB1000000 | m<<10, 0xF1000000 | m<<10, 0x8A000000 | m<<16, 0xCA000000 | m<<16, 0xEA000000 | m<<16,
		0x9AC02000 | m<<16, 0x9A800000 | m<<16 | cond, 0x9A800400 | m<<16 | cond, 0xF9400000 | m<<10, 0xF9000000 | m<<10,
		0xC85F7C00, 0xC8007C00 | m<<16,
	}
	switch c.Intn(12) {
	case 0:
		return 0xD2800000 | m<<5 | d
	case 1:
		return []uint32{0x91000000 | n<<5 | 31 | m<<10, 0xD5033FBF, 0xD50339BF, 0xD503201F}[c.Intn(4)]
	case 2:
		return []uint32{0xB4000040 | d, 0xB5000040 | d, 0x54000040 | cond>>12, 0xD65F03C0, 0xD4000001, 0x14000010}[c.Intn(6)]
	}
	return those[c.Intn(len(those))] | n<<5 | d
}
