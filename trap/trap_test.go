package trap_test

import (
	"math"
	"math/rand"
	"testing"

	"understudy/api"
	"understudy/regs"
	"understudy/trap"
)

// full is a right state of a level that has something else in each field, and no number that two of them share.
func full(el int) api.Core {
	c := api.Core{
		SP: [2]uint64{0x5000000000000001, 0x5000000000000002}, PC: 0x6000000000001234,
		N: true, C: true, EL: el,
		Spsr: 0x7000000000000004, Elr: 0x8000000000000005, Esr: 0x9000000000000006,
		Far: 0xA000000000000007, Vbar: 0xB000000000000800, Tpidr: 0xC000000000000009,
		Id: 5, Wait: 2,
	}
	for r := range c.X {
		c.X[r] = 0xD000000000000100 + uint64(r)
	}
	return c
}

// states are right ones: of both levels, with all flags, masked or not, of each kind of waiting, of each core,
// with addresses that wrap.
func states() []api.Core {
	out := []api.Core{{}, regs.New(0, 0x1000), regs.New(7, math.MaxUint64)}
	for k := range 512 {
		c := full(k & 1)
		c.Mask, c.Event = k&2 != 0, k&4 != 0
		c.N, c.Z, c.C, c.V = k&8 != 0, k&16 != 0, k&32 != 0, k&64 != 0
		c.Wait, c.Id = k%3, k%8
		if k&128 != 0 {
			c.PC = []uint64{0, math.MaxUint64, math.MaxUint64 - 3, 0x1002}[k%4]
		}
		if k&256 != 0 {
			c.Vbar = []uint64{0, math.MaxUint64, math.MaxUint64 - 0x7FF, 0x201, 0x280}[k%5]
		}
		out = append(out, c)
	}
	return out
}

// odd are numbers that are no level, no core, no kind of waiting, no class, no Iss, some of which look like one in their lowest bits.
func odd() []int {
	return []int{-1, -2, -63, -64, 1 << 25, 1<<25 + 1, 1 << 26, 1 << 31, 1 << 32, 1<<32 + 1, 1<<62 + 1, math.MaxInt, math.MinInt, math.MinInt + 1}
}

// wrong are states that are not right, each by one field alone.
func wrong() []api.Core {
	var out []api.Core
	for _, n := range append(odd(), 8, 9, 64) {
		for el := range 2 {
			a, b, d := full(el), full(el), full(el)
			a.EL, b.Wait, d.Id = n, n, n
			out = append(out, a, b, d)
		}
	}
	a, b := full(1), full(1)
	a.EL, b.Wait = 2, 3
	return append(out, a, b)
}

func same(t *testing.T, what string, got, want api.Core) {
	t.Helper()
	if got != want {
		t.Fatalf("%s:\n%+v, not\n%+v", what, got, want)
	}
}

func enter(t *testing.T, c api.Core, class, iss int, far uint64) api.Core {
	t.Helper()
	d, e := trap.Enter(c, class, iss, far)
	if e != api.OK {
		t.Fatalf("Enter of %#x, %#x: %v", class, iss, e)
	}
	return d
}

func irq(t *testing.T, c api.Core) api.Core {
	t.Helper()
	d, e := trap.Irq(c)
	if e != api.OK {
		t.Fatalf("Irq: %v", e)
	}
	return d
}

func back(t *testing.T, c api.Core) api.Core {
	t.Helper()
	d, e := trap.Back(c)
	if e != api.OK {
		t.Fatalf("Back: %v", e)
	}
	return d
}

// pstate tells SPSR again, bit by bit.
func pstate(c api.Core) uint64 {
	p := uint64(0)
	for bit, on := range map[int]bool{31: c.N, 30: c.Z, 29: c.C, 28: c.V, 7: c.Mask, 2: c.EL == 1, 0: c.EL == 1} {
		if on {
			p += 1 << bit
		}
	}
	return p
}

// taken is the chapter told again, of what Enter and Irq have in common; offset is that of EL 1.
func taken(c api.Core, offset uint64) api.Core {
	d := c
	d.Spsr, d.Elr, d.EL, d.Mask, d.Wait = pstate(c), c.PC, 1, true, 0
	if c.EL == 0 {
		offset += 0x200
	}
	d.PC = c.Vbar + offset
	return d
}

func entered(c api.Core, class, iss int, far uint64) api.Core {
	d := taken(c, 0x200)
	if class == 0x15 {
		d.Elr = c.PC + 4
	}
	d.Esr = uint64(class)*0x4000000 + 0x2000000 + uint64(iss)
	switch class {
	case 0x20, 0x21, 0x22, 0x24, 0x25:
		d.Far = far
	}
	return d
}

// P7.2: the chapter's examples, all fields of them.
func TestExamples(t *testing.T) {
	c := regs.New(0, 0x1000)
	same(t, "svc", enter(t, c, api.EcSvc, 5, 0), api.Core{PC: 0x200, EL: 1, Mask: true, Spsr: 0x85, Elr: 0x1004, Esr: 0x56000005})
	same(t, "irq", irq(t, c), api.Core{PC: 0x280, EL: 1, Mask: true, Spsr: 0x85, Elr: 0x1000})
	same(t, "data", enter(t, api.Core{Vbar: 0x800}, api.EcData, 0x21, 7),
		api.Core{PC: 0xC00, EL: 1, Mask: true, Esr: 0x92000021, Far: 7, Vbar: 0x800})
}

// P7.2: an exception, an interrupt, of a state that has something in each field, written out.
func TestIntoWritten(t *testing.T) {
	c := full(0)
	c.Event = true
	want := c
	want.PC, want.EL, want.Mask, want.Wait, want.Spsr, want.Elr = 0xB000000000000C00, 1, true, 0, 0xA0000000, 0x6000000000001234
	want.Esr, want.Far = 0x92000061, 0x123
	same(t, "data of EL 0", enter(t, c, api.EcData, 0x61, 0x123), want)
	want.PC, want.Esr, want.Far = 0xB000000000000C80, c.Esr, c.Far
	same(t, "irq of EL 0", irq(t, c), want)
	c = full(1)
	want = c
	want.PC, want.Mask, want.Wait, want.Spsr, want.Elr = 0xB000000000000A00, true, 0, 0xA0000005, 0x6000000000001238
	want.Esr = 0x5600FFFF
	same(t, "svc of EL 1", enter(t, c, api.EcSvc, 0xFFFF, 0x123), want)
	want.PC, want.Esr, want.Elr = 0xB000000000000A80, c.Esr, 0x6000000000001234
	same(t, "irq of EL 1", irq(t, c), want)
}

// P7.2: every class, with the ends of Iss; Far is kept of all but five, Elr is further of one alone.
func TestEnterClasses(t *testing.T) {
	for class := range 64 {
		for _, iss := range []int{0, 1, 0x21, 0xFFFF, 1 << 24, 1<<25 - 1} {
			for _, far := range []uint64{0, 7, math.MaxUint64} {
				for el := range 2 {
					c := full(el)
					same(t, "Enter", enter(t, c, class, iss, far), entered(c, class, iss, far))
					same(t, "what was handed in", c, full(el))
				}
			}
		}
	}
}

// P7.2: Enter and Irq of states of all sorts.
func TestIntoStates(t *testing.T) {
	for _, c := range states() {
		for _, class := range []int{api.EcUnknown, api.EcSvc, api.EcSys, api.EcFetch, api.EcFetch + 1, api.EcPc, api.EcPc + 1, api.EcData, api.EcData + 1, api.EcBrk, 63} {
			same(t, "Enter", enter(t, c, class, 3, 9), entered(c, class, 3, 9))
		}
		same(t, "Irq", irq(t, c), taken(c, 0x280))
	}
}

// P7.2: what wraps: the place behind an SVC, and the vectors.
func TestIntoWraps(t *testing.T) {
	c := api.Core{PC: math.MaxUint64 - 3, Vbar: math.MaxUint64 - 0x3FF}
	if d := enter(t, c, api.EcSvc, 0, 0); d.Elr != 0 || d.PC != 0 {
		t.Errorf("%#x %#x", d.Elr, d.PC)
	}
	if d := irq(t, c); d.Elr != math.MaxUint64-3 || d.PC != 0x80 {
		t.Errorf("%#x %#x", d.Elr, d.PC)
	}
	c.EL = 1
	if d := enter(t, c, api.EcBrk, 0, 0); d.Elr != math.MaxUint64-3 || d.PC != math.MaxUint64-0x1FF {
		t.Errorf("%#x %#x", d.Elr, d.PC)
	}
}

// P7.2: a class that is none, an Iss that is none, alone and both.
func TestEnterWrong(t *testing.T) {
	refused := func(c api.Core, class, iss int) {
		t.Helper()
		if d, e := trap.Enter(c, class, iss, 7); d != (api.Core{}) || e != api.ErrArg {
			t.Errorf("Enter of %d, %d: %+v %v", class, iss, d, e)
		}
	}
	for el := range 2 {
		for _, n := range odd() {
			refused(full(el), n, 0)
			refused(full(el), api.EcSvc, n)
			refused(full(el), n, n)
		}
		for _, class := range []int{64, 65, 64 + api.EcSvc, 127, 128} {
			refused(full(el), class, 0)
		}
	}
}

// P7.2, P7.3: a state that is not right.
func TestWrongStates(t *testing.T) {
	for _, c := range wrong() {
		for _, spsr := range []uint64{0, 5, 4} {
			c.Spsr = spsr
			if d, e := trap.Enter(c, api.EcSvc, 5, 0); d != (api.Core{}) || e != api.ErrArg {
				t.Errorf("Enter of EL %d, Wait %d, Id %d: %+v %v", c.EL, c.Wait, c.Id, d, e)
			}
			if d, e := trap.Irq(c); d != (api.Core{}) || e != api.ErrArg {
				t.Errorf("Irq of EL %d, Wait %d, Id %d: %+v %v", c.EL, c.Wait, c.Id, d, e)
			}
			if d, e := trap.Back(c); d != (api.Core{}) || e != api.ErrArg {
				t.Errorf("Back of EL %d, Wait %d, Id %d: %+v %v", c.EL, c.Wait, c.Id, d, e)
			}
		}
	}
}

// P7.3: every SPSR that may be gone back to, from both levels.
func TestBack(t *testing.T) {
	for _, c := range states() {
		for flags := range uint64(16) {
			for k := range uint64(4) {
				c.Spsr = flags<<28 | k/2*0x80 | k%2*5
				want := c
				want.PC, want.Event = c.Elr, true
				want.N, want.Z, want.C, want.V = flags/8 == 1, flags/4%2 == 1, flags/2%2 == 1, flags%2 == 1
				want.Mask, want.EL = k/2 == 1, int(k%2)
				same(t, "Back", back(t, c), want)
			}
		}
	}
}

// P7.3: an illegal return goes to the place, and changes nothing else but the event.
func TestBackIllegal(t *testing.T) {
	spsrs := []uint64{1, 2, 3, 4, 6, 7, 9, 13, 16, 21, 31, 0xF0000084, 0xA5, 0x105, 0x8000005, 1<<32 + 5, 1 << 63, math.MaxUint64}
	for _, c := range states() {
		for _, spsr := range spsrs {
			c.Spsr = spsr
			want := c
			want.PC, want.Event = c.Elr, true
			same(t, "Back", back(t, c), want)
		}
	}
}

// P7.4: in and back: the same place (behind an SVC), level, flags, Mask, and registers; what else there is, is that of the way in.
func TestThereAndBack(t *testing.T) {
	for _, c := range states() {
		for _, class := range []int{api.EcUnknown, api.EcSvc, api.EcPc, api.EcData + 1, api.EcBrk} {
			d := enter(t, c, class, 1, 2)
			want := c
			want.Spsr, want.Elr, want.Esr, want.Far, want.Wait, want.Event = d.Spsr, d.Elr, d.Esr, d.Far, 0, true
			if class == api.EcSvc {
				want.PC += 4
			}
			same(t, "Back of Enter", back(t, d), want)
		}
		d := irq(t, c)
		want := c
		want.Spsr, want.Elr, want.Wait, want.Event = d.Spsr, d.Elr, 0, true
		same(t, "Back of Irq", back(t, d), want)
	}
}

// P7.4: a handler that uses the registers, and is itself left by an interrupt, and then goes back to what it kept.
func TestThereAndBackTwice(t *testing.T) {
	c := full(0)
	first := enter(t, c, api.EcSvc, 9, 0)
	first.PC, first.Mask = first.PC+8, false
	second := irq(t, first)
	if second.Spsr != 0xA0000005 || second.Elr != c.Vbar+0x408 || second.PC != c.Vbar+0x280 {
		t.Fatalf("%+v", second)
	}
	again := back(t, second)
	if again.PC != first.PC || again.EL != 1 || again.Mask {
		t.Fatalf("%+v", again)
	}
	again.Spsr, again.Elr = first.Spsr, first.Elr
	last := back(t, again)
	if last.PC != c.PC+4 || last.EL != 0 || last.Mask || last.X != c.X || last.SP != c.SP || regs.Nzcv(last) != regs.Nzcv(c) {
		t.Fatalf("%+v", last)
	}
}

// P7.2, P7.3: any states, by chance; asked twice, the answer is the same.
func TestAny(t *testing.T) {
	r := rand.New(rand.NewSource(7))
	flag := func() bool { return r.Intn(2) == 0 }
	for range 20000 {
		c := full(r.Intn(2))
		c.N, c.Z, c.C, c.V, c.Mask, c.Event = flag(), flag(), flag(), flag(), flag(), flag()
		c.PC, c.Vbar, c.Elr, c.Esr, c.Far = r.Uint64(), r.Uint64(), r.Uint64(), r.Uint64(), r.Uint64()
		c.Spsr = r.Uint64() >> r.Intn(64) & r.Uint64()
		class, iss, far := r.Intn(64), r.Intn(1<<25), r.Uint64()
		for range 2 {
			same(t, "Enter", enter(t, c, class, iss, far), entered(c, class, iss, far))
			same(t, "Irq", irq(t, c), taken(c, 0x280))
		}
		same(t, "Back again", back(t, c), back(t, c))
	}
}
