package lower_test

import (
	"math"
	"math/rand"
	"slices"
	"strconv"
	"testing"

	"understudy/api"
	"understudy/lower"
)

// asks holds Right of micro-code against what it must be, and against the words.
func asks(t *testing.T, c api.Code, want bool) {
	t.Helper()
	if is := lower.Right(c); is != want || isRight(c) != want {
		t.Errorf("%v, by the words %v, not %v, of %+v", is, isRight(c), want, c)
	}
}

// P21.1: of each kind operations as they may be, at the edges of their fields.
func TestRightOfEachKind(t *testing.T) {
	lines := []string{
		"const 0 0", "const 7 18446744073709551615", "move 7 1", "move 0 0", "fill 5 0", "fill 7 1", "spill 0 0", "spill 1 1", "getsp 0", "getsp 7", "setsp 1",
		"load 7 0 0", "load 0 1 1", "load 0 0 2", "loadex 7 0 0", "loadex 0 0 2", "store 0 1 0", "store 1 1 4", "storeex 7 0 1 0", "storeex 0 0 0 4",
		"fence", "note 13", "note 10", "note 15", "at 0", "at 4", "at 18446744073709551612", "exitif 1 0", "exitif 0 3", "exitif 0 18446744073709551615",
	}
	for r := range 31 {
		lines = append(lines, "getx "+strconv.Itoa(r)+" 7", "setx "+strconv.Itoa(r)+" 1")
	}
	for r := range 4 {
		lines = append(lines, "getf "+strconv.Itoa(r)+" 7", "setf "+strconv.Itoa(r)+" 1")
	}
	for r := range 15 {
		lines = append(lines, "alu "+strconv.Itoa(1+r)+" 7 0 1", "alu "+strconv.Itoa(1+r)+" 0 0 0")
	}
	for _, line := range lines {
		asks(t, code("const 0 8", "const 1 9", "spill 0 0", "spill 1 1", line, "exit 68"), true)
	}
	for _, last := range []string{"exit 0", "exit 3", "exit 18446744073709551615", "exitto 0", "exitto 1", "guest 0", "guest 4294967295"} {
		asks(t, code("const 0 8", "const 1 9", last), true)
	}
}

// P21.1: a field that is out of its range.
func TestRightWrongFields(t *testing.T) {
	ahead := []string{"const 0 8", "const 1 9", "spill 0 0", "spill 1 1"}
	lines := []string{
		"const 8 0", "move 8 0", "move 0 8", "fill 0 2", "fill 8 0", "fill 0 18446744073709551615", "fill 0 4294967296", "fill 0 9223372036854775808", "spill 0 2", "spill 0 18446744073709551615", "spill 8 0",
		"getx 31 0", "getx 0 8", "setx 31 0", "setx 0 8", "getsp 8", "setsp 8", "getf 4 0", "getf 0 8", "setf 4 0", "setf 0 8", "alu 0 0 0 0", "alu 16 0 0 0", "alu 1 8 0 0", "alu 1 0 8 0", "alu 1 0 0 8",
		"load 8 0 0", "load 0 8 0", "load 0 0 3", "load 0 0 4", "loadex 8 0 0", "loadex 0 8 0", "loadex 0 0 1", "loadex 0 0 3", "loadex 0 0 4",
		"store 8 0 0", "store 0 8 0", "store 0 0 1", "store 0 0 2", "store 0 0 3", "store 0 0 5", "storeex 8 0 0 0", "storeex 0 8 0 0", "storeex 0 0 8 0", "storeex 0 0 0 1", "storeex 0 0 0 2", "storeex 0 0 0 6",
		"exitif 8 0", "at 1", "at 2", "at 3", "at 66", "at 18446744073709551615",
	}
	for n := range 33 {
		if n != 13 && n != 10 && n != 15 {
			lines = append(lines, "note "+strconv.Itoa(n))
		}
	}
	for _, line := range lines {
		asks(t, code(append(slices.Clone(ahead), line, "exit 68")...), false)
	}
	for _, last := range []string{"exitto 8", "exitto 2", "guest 4294967296", "guest 18446744073709551615"} {
		asks(t, code(append(slices.Clone(ahead), last)...), false)
	}
}

// P21.1: of each kind each field with odd numbers, and those that it has not with any but 0.
func TestRightEachField(t *testing.T) {
	numbers := append(odd(), 1, 2, 3, 4, 7, 8, 10, 13, 15, 16, 30, 31)
	some := func(r row) (api.Code, *api.Micro) { // with all registers and both slots set
		var lines []string
		for reg := range 8 {
			lines = append(lines, "const "+strconv.Itoa(reg)+" 8")
		}
		lines = append(lines, "spill 0 0", "spill 1 1", "exit 0", "exit 68")
		if r.name == "exit" || r.name == "exitto" || r.name == "guest" {
			lines = lines[:len(lines)-1]
		}
		c := code(lines...)
		o := &c.Ops[11]
		if *o = (api.Micro{Kind: r.kind}); r.name == "alu" || r.name == "note" {
			o.R = 13
		}
		return c, o
	}
	yes, no := 0, 0
	hold := func(c api.Code) {
		want := isRight(c)
		if asks(t, c, want); want {
			yes++
		} else {
			no++
		}
	}
	for _, r := range micros() {
		c, _ := some(r)
		asks(t, c, true)
		for _, n := range numbers {
			for name := range fieldsOf(&api.Micro{}) {
				c, o := some(r)
				if *fieldsOf(o)[name] = n; !r.has(name) {
					asks(t, c, false)
				}
				hold(c)
			}
			c, o := some(r)
			if o.Imm = uint64(n); !r.has("Imm") {
				asks(t, c, false)
			}
			hold(c)
			c, o = some(r)
			o.Kind = n
			hold(c)
		}
	}
	if yes < 300 || no < 3000 {
		t.Error(yes, no)
	}
}

// P21.1: what is read has been set by an operation ahead: not by itself, not by one behind, not by one that sets something else.
func TestRightReads(t *testing.T) {
	reads := []string{"move 0 2", "spill 2 0", "setx 0 2", "setsp 2", "setf 0 2", "alu 1 0 2 1", "alu 1 0 1 2", "load 0 2 0", "store 2 1 0", "store 1 2 0", "loadex 0 2 0", "storeex 0 2 1 0", "storeex 0 1 2 0", "exitif 2 0"}
	itself := []string{"move 2 2", "alu 1 2 2 1", "alu 1 2 1 2", "alu 1 2 2 2", "load 2 2 0", "loadex 2 2 0", "storeex 2 2 1 0", "storeex 2 1 2 0"}
	sets := []string{"const 2 8", "move 2 1", "fill 2 1", "getx 0 2", "getsp 2", "getf 0 2", "alu 1 2 1 1", "load 2 1 0", "loadex 2 1 0", "storeex 2 1 1 0"}
	others := []string{"const 3 2", "move 3 1", "fill 3 1", "getx 2 3", "getf 2 3", "setx 2 1", "setf 2 1", "alu 2 3 1 1", "load 3 1 2", "note 10", "fence", "at 2", "exitif 1 2", "spill 1 0"}
	for _, read := range append(reads, itself...) {
		head := []string{"const 1 8", "spill 1 1"}
		with := func(lines ...string) api.Code {
			return code(append(append(slices.Clone(head), lines...), "exit 68")...)
		}
		asks(t, with(read), false)
		for _, set := range sets {
			asks(t, with(set, read), true)
			asks(t, with(read, set), false)
		}
		for _, other := range others {
			asks(t, with(other, read), false)
		}
	}
	for _, set := range sets {
		asks(t, code("const 1 8", "spill 1 1", set, "exitto 2"), true)
	}
	asks(t, code("exitto 0"), false)
	asks(t, code("const 1 8", "exitto 0"), false)
}

// P21.1: a slot is set by an MSpill alone, each one by its own.
func TestRightSlots(t *testing.T) {
	asks(t, code("const 0 1", "spill 0 0", "fill 1 0", "exit 0"), true)
	asks(t, code("const 0 1", "spill 0 1", "fill 1 1", "exit 0"), true)
	asks(t, code("const 0 1", "fill 1 0", "exit 0"), false)
	asks(t, code("fill 1 0", "exit 0"), false)
	asks(t, code("const 0 1", "spill 0 1", "fill 1 0", "exit 0"), false)
	asks(t, code("const 0 1", "spill 0 0", "fill 1 1", "exit 0"), false)
	asks(t, code("const 0 1", "fill 1 0", "spill 0 0", "exit 0"), false)
	for _, slots := range []int{0, 1, 2, 511, 512} {
		for _, slot := range []uint64{0, 1, 2, 510, 511, 512, 513, math.MaxUint64, 1 << 63, 1 << 32} {
			c := code("const 0 1", "spill 0 0", "fill 1 0", "exit 0")
			c.Slots, c.Ops[2].Imm, c.Ops[3].Imm = slots, slot, slot
			asks(t, c, slot < uint64(slots))
		}
	}
}

// P21.1: what is asked of the micro-code itself.
func TestRightHead(t *testing.T) {
	changed := func(change func(*api.Code)) api.Code {
		c := code("getx 1 0", "exit 68")
		change(&c)
		return c
	}
	for n := range 20 {
		asks(t, changed(func(c *api.Code) { c.Words = n }), n >= 1 && n <= 16)
		asks(t, changed(func(c *api.Code) { c.EL = n }), n <= 1)
	}
	for _, n := range odd() {
		asks(t, changed(func(c *api.Code) { c.Words = n }), false)
		asks(t, changed(func(c *api.Code) { c.EL = n }), false)
		asks(t, changed(func(c *api.Code) { c.Slots = n }), n >= 0 && n <= 512)
	}
	for slots, want := range map[int]bool{-1: false, 0: true, 1: true, 511: true, 512: true, 513: false, 4096: false} {
		asks(t, changed(func(c *api.Code) { c.Slots = slots }), want)
	}
	for _, pc := range []uint64{0, 1, 2, 3, 4, 65, 66, 68, 1 << 32, math.MaxUint64 - 3, math.MaxUint64} {
		asks(t, changed(func(c *api.Code) { c.PC, c.Ops[0].Imm = pc, pc }), pc%4 == 0)
		asks(t, changed(func(c *api.Code) { c.PC = pc }), false)
		asks(t, changed(func(c *api.Code) { c.Ops[0].Imm = pc }), false)
	}
	asks(t, api.Code{}, false)
	asks(t, api.Code{PC: 64, Words: 1, EL: 1, Ops: []api.Micro{}}, false)
}

// P21.1: the first operation is an MAt of the PC; the last one, and no other one, leaves for good.
func TestRightFirstAndLast(t *testing.T) {
	for _, lines := range [][]string{
		{}, {"at 68"}, {"const 0 1"}, {"const 0 1", "exitif 0 4"}, {"fence"}, {"note 13"},
		{"exit 0", "exit 0"}, {"exit 0", "const 0 1"}, {"guest 0", "exit 0"}, {"exit 0", "guest 0"}, {"const 0 1", "exitto 0", "exit 0"}, {"const 0 1", "exitto 0", "exitto 0"}, {"exit 0", "at 64"},
	} {
		asks(t, code(lines...), false)
	}
	for _, lines := range [][]string{{"at 68", "exit 0"}, {"exit 0"}, {"const 0 64", "exit 0"}, {"guest 64"}, {"fence", "at 64", "exit 0"}, {"at 64"}} {
		c := code(lines...)
		c.Ops = c.Ops[1:]
		asks(t, c, false)
	}
	for _, field := range []string{"R", "D", "A", "B", "Order"} {
		c := code("exit 0")
		*fieldsOf(&c.Ops[0])[field] = 1
		asks(t, c, false)
	}
}

// P21.1: 2 to 4096 operations may be (one alone would have to be the first and the last one).
func TestRightLong(t *testing.T) {
	for many, want := range map[int]bool{1: false, 2: true, 3: true, 512: true, 513: true, 4095: true, 4096: true, 4097: false, 4098: false, 100000: false} {
		c := code(slices.Repeat([]string{"const 3 5"}, max(many-2, 0))...)
		if many > 1 {
			c.Ops = append(c.Ops, micro("exit 0"))
		}
		if asks(t, c, want); len(c.Ops) != many {
			t.Error(len(c.Ops))
		}
		if _, err := lower.Text(c); (err == api.OK) != want {
			t.Error(many, err)
		}
	}
}

// P21.1: micro-code by chance is right; with one field as another one it is just as the chapter says.
func TestRightByChance(t *testing.T) {
	yes, no := 0, 0
	eachByChance(211, 6000, func(c chance, b api.Block) {
		x, err := lower.Block(b, 3+c.Intn(6))
		if err != api.OK {
			t.Fatal(err)
		}
		asks(t, x, true)
		o := &x.Ops[c.Intn(len(x.Ops))]
		n := c.Intn(26) - 2
		if c.Intn(8) == 0 {
			n = odd()[c.Intn(len(odd()))]
		}
		switch c.Intn(12) {
		case 0:
			x.PC = uint64(n)
		case 1:
			x.Words = n
		case 2:
			x.EL = n
		case 3:
			x.Slots = n
		case 4:
			o.Imm = uint64(n)
		case 5:
			x.Ops = slices.Delete(x.Ops, 1, 2)
		default:
			*[]*int{&o.Kind, &o.R, &o.D, &o.A, &o.B, &o.Order}[c.Intn(6)] = n
		}
		want := isRight(x)
		if asks(t, x, want); want {
			yes++
		} else {
			no++
		}
	})
	if yes < 500 || no < 2000 {
		t.Error(yes, no)
	}
}

// P3: Right and Text write nothing.
func TestAskedCodeStays(t *testing.T) {
	c := chance{rand.New(rand.NewSource(212)), 600, 40}
	for range 200 {
		x, _ := lower.Block(c.block(60), 3)
		was := slices.Clone(x.Ops)
		lower.Right(x)
		one, _ := lower.Text(x)
		two, _ := lower.Text(x)
		if !slices.Equal(x.Ops, was) || one != two {
			t.Fatal(x)
		}
	}
}
