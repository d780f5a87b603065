package regs_test

import (
	"math"
	"testing"

	"understudy/api"
	"understudy/regs"
)

// full has something else in each field, and no number that two of them share.
func full() api.Core {
	c := api.Core{
		SP: [2]uint64{0x5000000000000001, 0x5000000000000002}, PC: 0x6000000000000003,
		N: true, C: true, EL: 1, Mask: true,
		Spsr: 0x7000000000000004, Elr: 0x8000000000000005, Esr: 0x9000000000000006,
		Far: 0xA000000000000007, Vbar: 0xB000000000000FFF, Tpidr: 0xC000000000000009,
		Id: 5, Wait: 2, Event: true,
	}
	for r := range c.X {
		c.X[r] = 0xD000000000000100 + uint64(r)
	}
	return c
}

// states are right ones and others: all of them are taken.
func states() []api.Core {
	out := []api.Core{{}, regs.New(0, 0), regs.New(7, math.MaxUint64), full()}
	for _, n := range odd() {
		a, b, d := full(), full(), full()
		a.EL, b.Wait, d.Id = n, n, n
		out = append(out, a, b, d)
	}
	for flags := range 16 {
		a, b := full(), api.Core{}
		a.N, a.Z, a.C, a.V = flags&8 != 0, flags&4 != 0, flags&2 != 0, flags&1 != 0
		b.N, b.Z, b.C, b.V = a.N, a.Z, a.C, a.V
		a.EL, a.Mask = 0, false
		out = append(out, a, b)
	}
	return out
}

// odd are numbers that are no register, no level, no core, no kind of waiting and no system register,
// some of which look like one in their lowest bits.
func odd() []int {
	return []int{-1, -2, -31, -32, 32, 33, 63, 64, 255, 256, 1 << 31, 1 << 32, 1<<32 + 1, 1<<62 + 1, math.MaxInt, math.MinInt, math.MinInt + 1}
}

func numbers() []uint64 {
	out := []uint64{0, math.MaxUint64, 0x0123456789ABCDEF, 0x5555555555555555, 0xAAAAAAAAAAAAAAAA}
	for k := range 64 {
		out = append(out, 1<<k, ^uint64(1<<k), 1<<k-1)
	}
	return out
}

func same(t *testing.T, what string, got, want api.Core) {
	t.Helper()
	if got != want {
		t.Fatalf("%s: %+v, not %+v", what, got, want)
	}
}

// P4.1: all nothing, but Id, PC, EL 1, Mask; any Id and PC are taken.
func TestNew(t *testing.T) {
	same(t, "New(3, 64)", regs.New(3, 64), api.Core{Id: 3, PC: 64, EL: 1, Mask: true})
	ids := append(odd(), 0, 1, 2, 3, 4, 5, 6, 7, 8)
	for _, id := range ids {
		for _, pc := range numbers() {
			var want api.Core
			want.Id, want.PC, want.EL, want.Mask = id, pc, 1, true
			same(t, "New", regs.New(id, pc), want)
		}
	}
}

// P4.1: what is right, with each of the three numbers at its ends and past them.
func TestRight(t *testing.T) {
	for el := -2; el <= 3; el++ {
		for wait := -2; wait <= 4; wait++ {
			for id := -2; id <= 9; id++ {
				want := (el == 0 || el == 1) && (wait == 0 || wait == 1 || wait == 2) && id > -1 && id < 8
				a, b := api.Core{}, full()
				a.EL, a.Wait, a.Id = el, wait, id
				b.EL, b.Wait, b.Id = el, wait, id
				if regs.Right(a) != want || regs.Right(b) != want {
					t.Errorf("EL %d, Wait %d, Id %d: %v %v", el, wait, id, regs.Right(a), regs.Right(b))
				}
			}
		}
	}
	for _, n := range odd() {
		if regs.Right(api.Core{EL: n}) || regs.Right(api.Core{Wait: n}) || regs.Right(api.Core{Id: n}) {
			t.Error("right with", n)
		}
	}
}

// P4.2: each register, and the zero register.
func TestX(t *testing.T) {
	for _, c := range states() {
		for r := range 31 {
			if v, e := regs.X(c, r); v != c.X[r] || e != api.OK {
				t.Fatal("X", r, v, e)
			}
		}
		if v, e := regs.X(c, 31); v != 0 || e != api.OK {
			t.Fatal("X of 31:", v, e)
		}
	}
}

// P4.2, P4.6: one register is set, got, and nothing else has changed; of 31 nothing at all.
func TestSetX(t *testing.T) {
	for _, c := range states() {
		first := c
		for r := range 31 {
			for _, value := range numbers() {
				want := c
				want.X[r] = value
				d, e := regs.SetX(c, r, value)
				if e != api.OK {
					t.Fatal("SetX", r, e)
				}
				same(t, "SetX", d, want)
				if v, f := regs.X(d, r); v != value || f != api.OK {
					t.Fatal("X of SetX", r, v, f)
				}
			}
		}
		d, e := regs.SetX(c, 31, math.MaxUint64)
		if e != api.OK {
			t.Fatal("SetX of 31:", e)
		}
		same(t, "SetX of 31", d, first)
		same(t, "what was handed in", c, first)
	}
}

// P4.2: a register that is none.
func TestXWrong(t *testing.T) {
	for _, c := range states() {
		for _, r := range odd() {
			if v, e := regs.X(c, r); v != 0 || e != api.ErrArg {
				t.Fatal("X", r, v, e)
			}
			d, e := regs.SetX(c, r, 5)
			if e != api.ErrArg {
				t.Fatal("SetX", r, e)
			}
			same(t, "SetX", d, api.Core{})
		}
	}
}

// P4.2, P4.6: the stack pointer is the one of the level, and the other one stays.
func TestSP(t *testing.T) {
	for _, c := range states() {
		for el := range 2 {
			c.EL = el
			if v, e := regs.SP(c); v != c.SP[el] || e != api.OK {
				t.Fatal("SP", el, v, e)
			}
			for _, value := range numbers() {
				want := c
				want.SP[el] = value
				d, e := regs.SetSP(c, value)
				if e != api.OK {
					t.Fatal("SetSP", el, e)
				}
				same(t, "SetSP", d, want)
				if v, f := regs.SP(d); v != value || f != api.OK {
					t.Fatal("SP of SetSP", el, v, f)
				}
			}
		}
	}
}

// P4.2: a level that is none; a Wait and an Id that are none do not matter.
func TestSPWrong(t *testing.T) {
	for _, el := range append(odd(), 2, 3, 4) {
		c := full()
		c.EL = el
		if v, e := regs.SP(c); v != 0 || e != api.ErrArg {
			t.Error("SP", el, v, e)
		}
		d, e := regs.SetSP(c, 8)
		if e != api.ErrArg {
			t.Error("SetSP", el, e)
		}
		same(t, "SetSP", d, api.Core{})
	}
	for _, n := range odd() {
		c := full()
		c.Wait, c.Id = n, n
		if v, e := regs.SP(c); v != c.SP[1] || e != api.OK {
			t.Error("SP of Wait, Id", n, v, e)
		}
	}
}
