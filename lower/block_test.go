package lower_test

import (
	"math"
	"math/rand"
	"reflect"
	"slices"
	"strconv"
	"testing"

	"understudy/api"
	"understudy/ir"
	"understudy/lower"
)

// lowered is the micro-code of a right block, held against all that P21.3 and P21.4 ask of it but its meaning.
func lowered(t *testing.T, b api.Block, regs int) api.Code {
	t.Helper()
	c, err := lower.Block(b, regs)
	if err != api.OK || !lower.Right(c) || !isRight(c) || c.PC != b.PC || c.Words != b.Words || c.EL != b.EL {
		t.Fatalf("%v: %+v\nof %d and\n%+v", err, c, regs, b)
	}
	for _, o := range c.Ops {
		if o.D >= regs || o.A >= regs || o.B >= regs {
			t.Fatalf("%+v of %d and\n%+v", o, regs, b)
		}
	}
	if len(c.Ops) > 8*len(b.Ops) || c.Slots > len(b.Ops) {
		t.Fatalf("%d operations and %d slots of %d and\n%+v", len(c.Ops), c.Slots, regs, b)
	}
	return c
}

// kinds are those of micro-code that are among some, in their order.
func kinds(c api.Code, those ...int) []int {
	var out []int
	for _, o := range c.Ops {
		if slices.Contains(those, o.Kind) {
			out = append(out, o.Kind)
		}
	}
	return out
}

// P21.3: the chapter's examples.
func TestExamples(t *testing.T) {
	c := lowered(t, example(), 3)
	asks(t, code("getx 1 0", "const 1 0", "alu 1 2 0 1", "load 0 2 0", "setx 0 0", "exit 68"), true) // the chapter's own
	var is []int
	for _, o := range c.Ops {
		is = append(is, o.Kind)
	}
	if !slices.Equal(is, []int{api.MAt, api.MGetX, api.MConst, api.MAlu, api.MLoad, api.MSetX, api.MExit}) || c.Slots != 0 {
		t.Error(is, c.Slots)
	}
	some := []int{api.MFence, api.MNote, api.MLoad, api.MStore, api.MLoadEx, api.MStoreEx}
	for _, row := range []struct {
		line string
		want []int
	}{
		{"fence 15", []int{api.MFence, api.MNote}}, {"fence 13", []int{api.MNote}}, {"fence 10", []int{api.MNote}},
		{"store 1 1 4", []int{api.MStore, api.MFence}}, {"store 1 1 0", []int{api.MStore}},
		{"storeex 1 1 4", []int{api.MStoreEx}}, {"storeex 1 1 0", []int{api.MStoreEx}},
		{"load 1 0", []int{api.MLoad}}, {"load 1 1", []int{api.MLoad}}, {"load 1 2", []int{api.MLoad}}, {"loadex 1 0", []int{api.MLoadEx}}, {"loadex 1 2", []int{api.MLoadEx}},
	} {
		for regs := 3; regs <= 8; regs++ {
			if is := kinds(lowered(t, block("const 8", row.line, "exit 68"), regs), some...); !slices.Equal(is, row.want) {
				t.Error(row.line, is)
			}
		}
	}
}

// wrong are blocks that are not right.
func wrong() []api.Block {
	right := func(change func(*api.Block)) api.Block {
		b := block("const 8", "getx 3", "alu 1 1 2", "store 3 1 0", "setf 0 1", "getf 0", "exitif 1 4", "fence 13", "exit 68")
		change(&b)
		return b
	}
	long := block(append(slices.Repeat([]string{"const 1"}, api.MaxOps-1), "exit 68")...)
	out := []api.Block{
		{}, {PC: 64, Words: 1}, {PC: 64, Words: 1, EL: 1, Ops: []api.Op{}}, {PC: 64, Words: 1, Ops: []api.Op{{Kind: api.IExit}}}, {PC: 64, Words: 1, Ops: []api.Op{{Kind: api.IAt}, {Kind: api.IExit}}}, long,
		block(), block("const 1"), block("exit 68", "exit 68"), block("guest 1", "exit 68"), block("const 1", "at 66", "exit 68"), block("guest 4294967296"), block("exitto 0"), block("exitto 1"), block("exitto 2"),
		block("alu 1 1 1", "exit 68"), block("const 1", "setx 0 1", "setx 0 2", "exit 68"), block("const 1", "alu 0 1 1", "exit 68"), block("getx 31", "exit 68"), block("const 1", "setx 31 1", "exit 68"),
		block("getf 4", "exit 68"), block("fence 7", "exit 68"), block("const 8", "loadex 1 1", "exit 68"), block("const 8", "store 1 1 2", "exit 68"),
	}
	for _, n := range odd() {
		out = append(out, right(func(b *api.Block) { b.Words = n }), right(func(b *api.Block) { b.EL = n }))
		for k := range right(func(*api.Block) {}).Ops {
			out = append(out, right(func(b *api.Block) { b.Ops[k].Kind = n }), right(func(b *api.Block) { b.Ops[k].R = n }), right(func(b *api.Block) { b.Ops[k].A = n }),
				right(func(b *api.Block) { b.Ops[k].B = n }), right(func(b *api.Block) { b.Ops[k].Order = n }))
		}
	}
	return slices.DeleteFunc(out, ir.Right)
}

func isRefused(t *testing.T, b api.Block, regs int, want api.Errno) {
	t.Helper()
	if c, err := lower.Block(b, regs); err != want || !reflect.DeepEqual(c, api.Code{}) {
		t.Errorf("%v, %+v, not %v, of %d and %+v", err, c, want, regs, b)
	}
}

// P21.3: 3 to 8 registers may be asked for, which is told ahead of a wrong block; what is not right is refused.
func TestWrong(t *testing.T) {
	those := wrong()
	if len(those) < 700 {
		t.Fatal(len(those))
	}
	for _, regs := range []int{-1, 0, 1, 2, 9, 10, 16, 256 + 3, 1<<32 + 3, -1<<32 + 4, 1<<63 - 1, math.MinInt, math.MinInt + 3} {
		isRefused(t, example(), regs, api.ErrArg)
		isRefused(t, api.Block{}, regs, api.ErrArg)
		isRefused(t, block("exitto 0"), regs, api.ErrArg)
	}
	for k, b := range those {
		isRefused(t, b, 3+k%6, api.ErrBlock)
	}
	for regs := 3; regs <= 8; regs++ {
		isRefused(t, api.Block{}, regs, api.ErrBlock)
		lowered(t, example(), regs)
	}
}

// P21.3: just what is right is taken.
func TestWrongByChance(t *testing.T) {
	refused, taken := 0, 0
	eachByChance(214, 6000, func(c chance, b api.Block) {
		o := &b.Ops[c.Intn(len(b.Ops))]
		*[]*int{&o.Kind, &o.R, &o.A, &o.B, &o.Order}[c.Intn(5)] = c.Intn(24) - 2
		if !ir.Right(b) {
			refused++
			isRefused(t, b, 3+c.Intn(6), api.ErrBlock)
			return
		}
		taken++
		lowered(t, b, 3+c.Intn(6))
	})
	if refused < 1500 || taken < 500 {
		t.Error(refused, taken)
	}
}

// crowded has as many values as there may be, all of which are used from the far end, two by two.
func crowded(between ...string) api.Block {
	var lines []string
	for len(lines) < 250 {
		lines = append(lines, "const "+strconv.Itoa(8*len(lines)))
	}
	lines = append(lines, between...)
	for k := 0; len(lines) < api.MaxOps-2; k++ {
		lines = append(lines, "storeex "+strconv.Itoa(1+k%250)+" "+strconv.Itoa(250-(7*k)%250)+" 4")
	}
	return block(append(lines, "exitto 1")...)
}

// P21.4: blocks as long as may be, with as few registers as may be, keep to the limits; most of their values are in slots.
func TestLimits(t *testing.T) {
	for _, b := range []api.Block{
		crowded(), crowded("load 1 0"),
		block(append(slices.Repeat([]string{"fence 15"}, api.MaxOps-2), "exit 0")...),
		block(append(append([]string{"const 8"}, slices.Repeat([]string{"store 1 1 4"}, api.MaxOps-3)...), "exit 0")...),
		block(append(slices.Repeat([]string{"const 1"}, api.MaxOps-2), "exit 0")...),
		block("exit 0"), block("guest 0"), block("const 0", "exitto 1"),
	} {
		for regs := 3; regs <= 8; regs++ {
			lowered(t, b, regs)
		}
	}
	if c := lowered(t, crowded(), 3); c.Slots < 240 {
		t.Error(c.Slots)
	}
}

// P21.3, P21.4, P4: of the same block and registers the same is told, whatever others were asked between.
func TestAlwaysTheSame(t *testing.T) {
	eachByChance(215, 500, func(c chance, b api.Block) {
		regs := 3 + c.Intn(6)
		x := lowered(t, b, regs)
		for range 4 {
			lowered(t, c.block(3+c.Intn(40)), 3+c.Intn(6))
			if !reflect.DeepEqual(lowered(t, b, regs), x) {
				t.Fatal(x)
			}
		}
	})
}

// P3: what is handed in stays, what stands behind it in its array too; what is told is new memory, with its spare room.
func TestNothingIsShared(t *testing.T) {
	c := chance{rand.New(rand.NewSource(216)), 600, 40}
	for range 1000 {
		b, regs := c.block(3+c.Intn(30)), 3+c.Intn(6)
		room := append(slices.Clone(b.Ops), slices.Repeat([]api.Op{{Kind: 99}}, 8)...)
		b.Ops = room[:len(b.Ops)]
		was, want := slices.Clone(room), lowered(t, b, regs)
		first, second := lowered(t, b, regs), lowered(t, b, regs)
		ops := first.Ops[:cap(first.Ops)]
		for k := range ops {
			ops[k] = api.Micro{Kind: 77, R: 77, D: 77, A: 77, B: 77, Order: 77, Imm: 77}
		}
		if !slices.Equal(room, was) || !reflect.DeepEqual(second, want) {
			t.Fatalf("%+v", b)
		}
		clear(room)
		if !reflect.DeepEqual(second, want) {
			t.Fatalf("%+v", second)
		}
	}
}

// mostAtOnce is how many values a block needs at one time: those that an operation uses, or those that are used behind it and its own.
func mostAtOnce(b api.Block) int {
	last := map[int]int{}
	for k, o := range b.Ops {
		for _, value := range ir.Uses(o) {
			last[value] = k
		}
	}
	most := 0
	for k, o := range b.Ops {
		ahead, behind := 0, 0
		for value, place := range last {
			if value < k && place >= k {
				ahead++
			}
			if value < k && place > k {
				behind++
			}
		}
		if ir.Defines(o) {
			behind++
		}
		most = max(most, ahead, behind)
	}
	return most
}

// The chapter's Ways: where the registers are enough for all values nothing is spilled, and each is spilled once at most.
func TestNothingIsSpilledForNothing(t *testing.T) {
	enough, few := 0, 0
	eachByChance(217, 6000, func(c chance, b api.Block) {
		most := mostAtOnce(b)
		for regs := 3; regs <= 8; regs++ {
			x := lowered(t, b, regs)
			if spills := len(kinds(x, api.MSpill)); spills != x.Slots || (spills == 0) != (most <= regs) {
				t.Fatalf("%d spills, %d slots of %d and, of %d values at once,\n%+v", spills, x.Slots, regs, most, b)
			}
			if most > regs {
				few++
			} else {
				enough++
			}
		}
	})
	if enough < 8000 || few < 8000 {
		t.Error(enough, few)
	}
}

// The chapter's Ways: the register whose value is wanted latest is given out, and none whose value is wanted sooner.
func TestWantedLatestGoes(t *testing.T) {
	for _, order := range [][]int{{1, 2, 3}, {1, 3, 2}, {2, 1, 3}, {2, 3, 1}, {3, 1, 2}, {3, 2, 1}} {
		lines := []string{"getx 11", "getx 12", "getx 13", "getx 14", "setx 20 4"}
		for _, value := range order {
			lines = append(lines, "setx "+strconv.Itoa(20+value)+" "+strconv.Itoa(value))
		}
		c := lowered(t, block(append(lines, "exit 68")...), 3)
		holds := map[int]int{} // the X that each register holds
		var spilled []int
		for _, o := range c.Ops {
			switch o.Kind {
			case api.MGetX:
				holds[o.D] = o.R
			case api.MSpill:
				spilled = append(spilled, holds[o.A])
			}
		}
		if !slices.Equal(spilled, []int{10 + order[2]}) {
			t.Error(order, spilled, c.Ops)
		}
	}
}
