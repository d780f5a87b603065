package sem_test

import (
	"math"
	"testing"

	"understudy/api"
	"understudy/code"
	"understudy/regs"
	"understudy/sem"
)

// full is a right state of a level that has something else in each field, and no number that two of them share.
func full(el int) api.Core {
	c := api.Core{
		SP: [2]uint64{0x5000000000000010, 0x5000000000000020}, PC: 0x6000000000001234,
		N: true, C: true, EL: el,
		Spsr: 0x7000000000000004, Elr: 0x8000000000000005, Esr: 0x9000000000000006,
		Far: 0xA000000000000007, Vbar: 0xB000000000000800, Tpidr: 0xC000000000000009,
		Id: 5,
	}
	for r := range c.X {
		c.X[r] = 0xD000000000000100 + 8*uint64(r)
	}
	return c
}

// odd are numbers that are no level, no core and no kind of waiting, some of which look like one in their lowest bits.
func odd() []int {
	return []int{-1, -2, 8, 9, 16, 255, 256, 1 << 31, 1 << 32, 1<<32 + 1, 1<<62 + 1, math.MaxInt, math.MinInt, math.MinInt + 1}
}

// wrong are states that are not right, each by one field alone.
func wrong() []api.Core {
	var out []api.Core
	for _, n := range append(odd(), 3) {
		a, b, d := full(1), full(1), full(0)
		a.EL, b.Wait = n, n
		out = append(out, a, b)
		if n != 3 {
			d.Id = n
			out = append(out, d)
		}
	}
	a := full(1)
	a.EL = 2
	return append(out, a)
}

func wordOf(t *testing.T, i api.Insn) uint32 {
	t.Helper()
	word, e := code.Encode(i)
	if e != api.OK {
		t.Fatalf("%+v has no word", i)
	}
	return word
}

func begin(t *testing.T, c api.Core, word uint32) api.Want {
	t.Helper()
	first := c
	w, e := sem.Begin(c, word)
	if e != api.OK || c != first {
		t.Fatalf("Begin of %08x: %v", word, e)
	}
	return w
}

func end(t *testing.T, c api.Core, word uint32, got api.Got) api.Core {
	t.Helper()
	first := c
	d, e := sem.End(c, word, got)
	if e != api.OK || c != first {
		t.Fatalf("End of %08x: %v", word, e)
	}
	return d
}

func same(t *testing.T, what string, got, want api.Core) {
	t.Helper()
	if got != want {
		t.Fatalf("%s:\n%+v, not\n%+v", what, got, want)
	}
}

// P6.1: the PC is a multiple of 4, or it is none.
func TestFetch(t *testing.T) {
	for el := range 2 {
		for _, pc := range []uint64{0, 4, 8, 0x1000, 0x1004, 1 << 32, 1 << 63, math.MaxUint64 - 3} {
			c := full(el)
			for k := range uint64(4) {
				c.PC = pc + k
				want := api.Want{Kind: api.WLoad, Addr: c.PC}
				if k != 0 {
					want = api.Want{Kind: api.WTrap, Class: api.EcPc, Addr: c.PC}
				}
				if w, e := sem.Fetch(c); w != want || e != api.OK {
					t.Errorf("Fetch at %#x: %+v %v", c.PC, w, e)
				}
			}
		}
	}
}

// P6.1, P6.2, P6.3: a state that is not right.
func TestWrongStates(t *testing.T) {
	words := []uint32{0, 0x91000420, 0xF9400020, 0xF9400000, 0xD503207F, 0xD69F03E0, 0xD4000001, 0xD538CC00, 0xFFFFFFFF}
	for _, c := range wrong() {
		for _, pc := range []uint64{0x1000, 0x1002} {
			c.PC = pc
			if w, e := sem.Fetch(c); w != (api.Want{}) || e != api.ErrArg {
				t.Errorf("Fetch of EL %d, Wait %d, Id %d: %+v %v", c.EL, c.Wait, c.Id, w, e)
			}
		}
		for _, word := range words {
			if w, e := sem.Begin(c, word); w != (api.Want{}) || e != api.ErrArg {
				t.Errorf("Begin of EL %d, Wait %d, Id %d: %+v %v", c.EL, c.Wait, c.Id, w, e)
			}
			for _, got := range []api.Got{{}, {Value: 5, Ok: true}, {Fault: api.Outside}} {
				if d, e := sem.End(c, word, got); d != (api.Core{}) || e != api.ErrArg {
					t.Errorf("End of EL %d, Wait %d, Id %d: %+v %v", c.EL, c.Wait, c.Id, d, e)
				}
			}
		}
	}
}

// P6.1, P6.2, P6.3: the edges of what is right: each level, each kind of waiting, each core.
func TestRightStates(t *testing.T) {
	for id := range 8 {
		for wait := range 3 {
			for el := range 2 {
				c := full(el)
				c.Id, c.Wait, c.PC = id, wait, 0x1000
				if _, e := sem.Fetch(c); e != api.OK {
					t.Errorf("Fetch of EL %d, Wait %d, Id %d: %v", el, wait, id, e)
				}
				begin(t, c, 0x91000420)
				want := c
				want.PC, want.X[0] = 0x1004, c.X[1]+1
				same(t, "End", end(t, c, 0x91000420, api.Got{}), want)
			}
		}
	}
}

// P6.2, P6.3: the chapter's examples.
func TestExamples(t *testing.T) {
	c := regs.New(0, 0x1000)
	c.X[1] = 5
	for word, want := range map[uint32]api.Want{
		0x91000420: {},
		0xF9400020: {Kind: api.WTrap, Class: api.EcData + 1, Iss: 0x21, Addr: 5},
		0xF9400000: {Kind: api.WLoad},
		0x00000000: {Kind: api.WTrap, Class: api.EcUnknown},
		0xD503207F: {Kind: api.WWait, Value: 1},
	} {
		if w := begin(t, c, word); w != want {
			t.Errorf("Begin of %08x: %+v", word, w)
		}
	}
	next := c
	next.PC = 0x1004
	sum, loaded, waits := next, next, next
	sum.X[0], loaded.X[0], waits.Wait = 6, 77, 1
	same(t, "add", end(t, c, 0x91000420, api.Got{}), sum)
	same(t, "ldr", end(t, c, 0xF9400000, api.Got{Value: 77}), loaded)
	same(t, "wfi", end(t, c, 0xD503207F, api.Got{}), waits)
	in := c
	in.PC, in.Spsr, in.Elr = 0x200, 0x85, 0x1000
	crooked, outside, unknown := in, in, in
	crooked.Esr, crooked.Far = 0x96000021, 5
	outside.Esr, unknown.Esr = 0x96000010, 0x02000000
	same(t, "ldr of 5", end(t, c, 0xF9400020, api.Got{}), crooked)
	same(t, "ldr of nothing", end(t, c, 0xF9400000, api.Got{Fault: api.Outside}), outside)
	same(t, "no instruction", end(t, c, 0, api.Got{}), unknown)
}
