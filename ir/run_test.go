package ir_test

import (
	"math"
	"slices"
	"testing"

	"understudy/api"
	"understudy/ir"
)

// begin is a run that must be.
func begin(t *testing.T, b api.Block, c api.Core) *ir.Run {
	t.Helper()
	r, e := ir.New(b, c)
	if e != api.OK || r == nil {
		t.Fatal("New:", e, b)
	}
	return r
}

// wants goes on, to what must be wanted.
func wants(t *testing.T, r *ir.Run, want api.Want) {
	t.Helper()
	if w, ok := r.Next(); !ok || w != want {
		t.Fatalf("%+v, %v; not %+v", w, ok, want)
	}
}

func takes(t *testing.T, r *ir.Run, got api.Got) {
	t.Helper()
	if e := r.Take(got); e != api.OK {
		t.Fatal("Take:", e)
	}
}

// shows asks all that a run tells without going on.
func shows(t *testing.T, r *ir.Run, want end) {
	t.Helper()
	word, guest := r.Guest()
	if got := (end{r.Core(), word, guest, r.Faulted()}); got != want {
		t.Fatalf("%+v\nnot %+v", got, want)
	}
}

// ends goes on, to where the block must have been left, and asks that it stays so.
func ends(t *testing.T, r *ir.Run, want end) {
	t.Helper()
	for range 2 {
		if w, ok := r.Next(); ok || w != (api.Want{}) {
			t.Fatal("Next behind the end:", w, ok)
		}
		shows(t, r, want)
		if e := r.Take(api.Got{Value: 7, Ok: true, Fault: 1}); e != api.ErrArg {
			t.Fatal("Take behind the end:", e)
		}
		shows(t, r, want)
	}
}

// withX is a state of the level 1 with one register.
func withX(r int, value uint64) api.Core {
	c := api.Core{EL: 1}
	c.X[r] = value
	return c
}

// P16.2, P16.3: the chapter's examples.
func TestExamples(t *testing.T) {
	first := withX(1, 8)
	r := begin(t, example(), first)
	shows(t, r, end{core: first})
	wants(t, r, api.Want{Kind: api.WLoad, Addr: 8})
	takes(t, r, api.Got{Value: 5})
	done := first
	done.X[0], done.PC = 5, 68
	ends(t, r, end{core: done})

	r = begin(t, example(), first)
	wants(t, r, api.Want{Kind: api.WLoad, Addr: 8})
	takes(t, r, api.Got{Fault: api.Outside})
	left := first
	left.PC = 64
	ends(t, r, end{core: left, faulted: true})
}

// P16.2: a block that is not right is told ahead of a state that is not; with an error there is no run.
func TestNewWrong(t *testing.T) {
	refused := func(b api.Block, c api.Core, want api.Errno) {
		t.Helper()
		if r, e := ir.New(b, c); r != nil || e != want {
			t.Error(r, e, want)
		}
	}
	for _, n := range append(odd(), 8) {
		a, b, c := full(), full(), full()
		a.EL, b.Id, c.Wait = n, n, n
		for _, core := range []api.Core{a, b, c} {
			refused(example(), core, api.ErrArg)
			refused(api.Block{}, core, api.ErrBlock)
			refused(block(number(1)), core, api.ErrBlock)
		}
		wrong := example()
		wrong.EL = n
		refused(wrong, full(), api.ErrBlock)
		refused(wrong, a, api.ErrBlock)
	}
	c := full()
	c.Wait = 3
	refused(example(), c, api.ErrArg)
	c = full()
	c.EL = 0
	refused(example(), c, api.ErrArg)
	refused(block(setX(0, 0), exit(0)), c, api.ErrBlock)
	user := example()
	user.EL = 0
	refused(user, full(), api.ErrArg)
	begin(t, user, c)
}

// P16.2, P16.3: all right states are taken, and are as they were ahead of the first Next; the PC need not be the block's.
func TestNewKeepsState(t *testing.T) {
	for id := range 8 {
		for wait := range 3 {
			for el := range 2 {
				c := full()
				c.Id, c.Wait, c.EL = id, wait, el
				b := block(exit(80))
				b.EL = el
				r := begin(t, b, c)
				shows(t, r, end{core: c})
				if e := r.Take(api.Got{}); e != api.ErrArg {
					t.Error(e)
				}
				shows(t, r, end{core: c})
				c.PC = 80
				ends(t, r, end{core: c})
			}
		}
	}
}

// P16.2: each access and fence wants what its kind and Order say, and nothing else.
func TestWants(t *testing.T) {
	const a, b = 1, 2 // the places of the address and the value
	for _, row := range []struct {
		o    api.Op
		want api.Want
	}{
		{load(a, api.OPlain), api.Want{Kind: api.WLoad, Addr: 24, Acq: api.Plain}},
		{load(a, api.OAcqPC), api.Want{Kind: api.WLoad, Addr: 24, Acq: api.AcqPC}},
		{load(a, api.OAcq), api.Want{Kind: api.WLoad, Addr: 24, Acq: api.Acq}},
		{loadEx(a, api.OPlain), api.Want{Kind: api.WLoadEx, Addr: 24, Acq: api.Plain}},
		{loadEx(a, api.OAcq), api.Want{Kind: api.WLoadEx, Addr: 24, Acq: api.Acq}},
		{store(a, b, api.OPlain), api.Want{Kind: api.WStore, Addr: 24, Value: 77}},
		{store(a, b, api.ORel), api.Want{Kind: api.WStore, Addr: 24, Value: 77, Rel: true}},
		{storeEx(a, b, api.OPlain), api.Want{Kind: api.WStoreEx, Addr: 24, Value: 77}},
		{storeEx(a, b, api.ORel), api.Want{Kind: api.WStoreEx, Addr: 24, Value: 77, Rel: true}},
		{store(a, a, api.OPlain), api.Want{Kind: api.WStore, Addr: 24, Value: 24}},
		{fence(api.FenceLd), api.Want{Kind: api.WFence, Fence: 13}},
		{fence(api.FenceSt), api.Want{Kind: api.WFence, Fence: 10}},
		{fence(api.FenceFull), api.Want{Kind: api.WFence, Fence: 15}},
	} {
		c := full()
		r := begin(t, block(number(24), number(77), row.o, setX(0, 1), exit(68)), c)
		c.PC = 64
		for range 3 {
			wants(t, r, row.want)
			shows(t, r, end{core: c})
		}
		takes(t, r, api.Got{})
		shows(t, r, end{core: c})
		if e := r.Take(api.Got{}); e != api.ErrArg {
			t.Error(row.o, e)
		}
		shows(t, r, end{core: c})
		c.X[0], c.PC = 24, 68
		ends(t, r, end{core: c})
	}
}

// P16.2: what came of an access: the value that is loaded, whatever Ok is; of an exclusive store whether it was done, whatever the value is.
func TestTakeValues(t *testing.T) {
	for _, got := range []api.Got{{}, {Value: 5}, {Ok: true}, {Value: math.MaxUint64, Ok: true}, {Value: 1}, {Value: 1, Ok: true}} {
		status := uint64(1)
		if got.Ok {
			status = 0
		}
		for _, row := range []struct {
			o    api.Op
			want uint64
		}{
			{load(1, 0), got.Value}, {load(1, 2), got.Value}, {loadEx(1, 0), got.Value}, {loadEx(1, 2), got.Value},
			{storeEx(1, 1, 0), status}, {storeEx(1, 1, 4), status},
		} {
			c := full()
			r := begin(t, block(number(8), row.o, setX(3, 2), exit(68)), c)
			r.Next()
			takes(t, r, got)
			c.X[3], c.PC = row.want, 68
			ends(t, r, end{core: c})
		}
		for _, o := range []api.Op{store(1, 1, 0), store(1, 1, 4), fence(13)} {
			c := full()
			r := begin(t, block(number(8), o, exit(68)), c)
			r.Next()
			takes(t, r, got)
			c.PC = 68
			ends(t, r, end{core: c})
		}
	}
}

// P16.2: a Fault leaves the block at once, with the state of there; what is behind is not done.
func TestTakeFault(t *testing.T) {
	for _, fault := range []int{api.Outside, api.Denied, 3, -1, 1 << 32, math.MinInt} {
		for _, o := range []api.Op{load(1, 0), load(1, 1), load(1, 2), loadEx(1, 0), loadEx(1, 2), store(1, 1, 0), store(1, 1, 4), storeEx(1, 1, 0), storeEx(1, 1, 4)} {
			c := full()
			r := begin(t, block(number(8), o, setX(1, 1), at(68), setX(2, 1), o, setX(3, 1), exit(72)), c)
			r.Next()
			takes(t, r, api.Got{Value: 9, Ok: true})
			r.Next()
			takes(t, r, api.Got{Value: 9, Ok: true, Fault: fault})
			c.X[1], c.X[2], c.PC = 8, 8, 68
			shows(t, r, end{core: c, faulted: true})
			ends(t, r, end{core: c, faulted: true})
		}
	}
}

// P16.2: a fence is no access: a Fault is nothing to it.
func TestFenceFault(t *testing.T) {
	c := full()
	r := begin(t, block(number(3), fence(15), setX(0, 1), exit(68)), c)
	wants(t, r, api.Want{Kind: api.WFence, Fence: 15})
	takes(t, r, api.Got{Fault: api.Outside, Value: 4, Ok: true})
	c.X[0], c.PC = 3, 68
	ends(t, r, end{core: c})
}

// P16.2: at an address that is no multiple of 8 nothing is wanted; a fence ahead of it is.
func TestUnaligned(t *testing.T) {
	for _, addr := range []uint64{1, 2, 3, 4, 5, 6, 7, 9, 12, 1<<32 + 4, 1<<63 + 1, math.MaxUint64, math.MaxUint64 - 3, 1, math.MaxUint64 - 6} {
		for _, o := range []api.Op{load(1, 0), load(1, 1), load(1, 2), loadEx(1, 0), loadEx(1, 2), store(1, 2, 0), store(1, 2, 4), storeEx(1, 2, 0), storeEx(1, 2, 4)} {
			c := full()
			r := begin(t, block(number(addr), number(8), setX(1, 2), fence(10), at(1024), o, setX(2, 2), exit(68)), c)
			wants(t, r, api.Want{Kind: api.WFence, Fence: 10})
			takes(t, r, api.Got{})
			c.X[1], c.PC = 8, 1024
			ends(t, r, end{core: c, faulted: true})
		}
	}
	for _, addr := range []uint64{0, 8, 16, 1 << 32, 1 << 63, math.MaxUint64 - 7} {
		r := begin(t, block(number(addr), load(1, 0), exit(68)), full())
		wants(t, r, api.Want{Kind: api.WLoad, Addr: addr})
	}
}

// P16.2: a value that is stored may be no multiple of 8.
func TestStoreOddValue(t *testing.T) {
	r := begin(t, block(number(8), number(math.MaxUint64), store(1, 2, 0), exit(68)), full())
	wants(t, r, api.Want{Kind: api.WStore, Addr: 8, Value: math.MaxUint64})
}

// P16.2: registers are got and set, each by its number.
func TestRegisters(t *testing.T) {
	for k := range 31 {
		c := full()
		r := begin(t, block(getX(k), setX((k+7)%31, 1), number(5), setX(k, 3), exit(68)), c)
		c.X[(k+7)%31], c.X[k], c.PC = c.X[k], 5, 68
		ends(t, r, end{core: c})
	}
	for el := range 2 {
		c := full()
		c.EL = el
		b := block(getSP(), setX(0, 1), number(6), setSP(3), getSP(), setX(1, 5), exit(68))
		b.EL = el
		r := begin(t, b, c)
		c.X[0], c.SP[el], c.X[1], c.PC = c.SP[el], 6, 6, 68
		ends(t, r, end{core: c})
	}
}

// P16.2: a value that was got stays what it was, though its register is set behind.
func TestValuesStay(t *testing.T) {
	c := full()
	r := begin(t, block(getX(1), getSP(), getF(0), number(0), setX(1, 4), setSP(4), setF(0, 4), setX(2, 1), setX(3, 2), setX(4, 3), exit(68)), c)
	c.X[2], c.X[3], c.X[4] = c.X[1], c.SP[1], 1
	c.X[1], c.SP[1], c.N, c.PC = 0, 0, false, 68
	ends(t, r, end{core: c})
}

// P16.2: flags are 0 or 1; they are set by whether a value is not 0.
func TestFlags(t *testing.T) {
	for bits := range 16 {
		c := full()
		c.N, c.Z, c.C, c.V = bits&1 != 0, bits&2 != 0, bits&4 != 0, bits&8 != 0
		r := begin(t, block(getF(0), setX(0, 1), getF(1), setX(1, 3), getF(2), setX(2, 5), getF(3), setX(3, 7), exit(68)), c)
		for k := range 4 {
			c.X[k] = uint64(bits >> k & 1)
		}
		c.PC = 68
		ends(t, r, end{core: c})
	}
	for _, value := range []uint64{0, 1, 2, 1 << 8, 1 << 32, 1 << 63, math.MaxUint64} {
		for k := range 4 {
			for _, before := range []bool{false, true} {
				c := full()
				flags := []*bool{&c.N, &c.Z, &c.C, &c.V}
				*flags[k] = before
				r := begin(t, block(number(value), setF(k, 1), exit(68)), c)
				*flags[k], c.PC = value != 0, 68
				ends(t, r, end{core: c})
			}
		}
	}
}

// P16.2: each kind of reckoning, of A and B in their order.
func TestReckons(t *testing.T) {
	minus8 := uint64(math.MaxUint64 - 7)
	want := map[int]uint64{
		api.AAdd: math.MaxUint64 - 4, api.ASub: math.MaxUint64 - 10, api.AAnd: 0, api.AOr: math.MaxUint64 - 4, api.AXor: math.MaxUint64 - 4, api.AMul: math.MaxUint64 - 23,
		api.AUdiv: 6148914691236517202, api.ASdiv: math.MaxUint64 - 1, api.AShl: math.MaxUint64 - 63, api.AShr: math.MaxUint64 >> 3, api.ASar: math.MaxUint64, api.ARor: math.MaxUint64 >> 3,
		api.AEq: 0, api.AUlt: 0, api.ASlt: 1,
	}
	for kind := api.AAdd; kind <= api.ASlt; kind++ {
		c := full()
		r := begin(t, block(number(minus8), number(3), reckon(kind, 1, 2), setX(0, 3), exit(68)), c)
		c.X[0], c.PC = want[kind], 68
		ends(t, r, end{core: c})
	}
}

// P16.2: where the block is left to.
func TestExits(t *testing.T) {
	for _, pc := range []uint64{0, 1, 64, 68, 1 << 63, math.MaxUint64} {
		c := full()
		c.PC = pc
		ends(t, begin(t, block(exit(pc)), full()), end{core: c})
		ends(t, begin(t, block(number(pc), exitTo(1)), full()), end{core: c})
		for _, value := range []uint64{1, 2, 1 << 32, 1 << 63, math.MaxUint64} {
			ends(t, begin(t, block(number(value), exitIf(1, pc), number(3), setX(0, 3), exit(4)), full()), end{core: c})
		}
		c.X[0], c.PC = 3, 4
		ends(t, begin(t, block(number(0), exitIf(1, pc), number(3), setX(0, 3), exit(4)), full()), end{core: c})
	}
}

// P16.2, P16.3: an IGuest leaves the block at the PC of the last IAt; its word is told then, and not ahead of it.
func TestGuest(t *testing.T) {
	for _, word := range []uint32{0, 1, 9, 1 << 31, math.MaxUint32} {
		c := full()
		r := begin(t, block(at(128), at(72), fence(13), guest(uint64(word))), c)
		shows(t, r, end{core: c})
		wants(t, r, api.Want{Kind: api.WFence, Fence: 13})
		c.PC = 72
		shows(t, r, end{core: c})
		takes(t, r, api.Got{})
		shows(t, r, end{core: c})
		ends(t, r, end{core: c, word: word, guest: true})
	}
	c := full()
	r := begin(t, block(number(1), exitIf(1, 4), guest(7)), c)
	c.PC = 4
	ends(t, r, end{core: c})
	r = begin(t, block(number(1), load(1, 0), guest(7)), full())
	c.PC = 64
	ends(t, r, end{core: c, faulted: true})
}

// P16.2: Next goes no further than to what is wanted; the state is that of there.
func TestStateAtWants(t *testing.T) {
	c := full()
	b := block(number(8), setX(0, 1), load(1, 0), at(68), setX(1, 3), fence(15), at(72), setX(2, 1), store(1, 3, 4), exit(76))
	r := begin(t, b, c)
	wants(t, r, api.Want{Kind: api.WLoad, Addr: 8})
	c.X[0], c.PC = 8, 64
	shows(t, r, end{core: c})
	takes(t, r, api.Got{Value: 33})
	shows(t, r, end{core: c})
	wants(t, r, api.Want{Kind: api.WFence, Fence: 15})
	c.X[1], c.PC = 33, 68
	shows(t, r, end{core: c})
	takes(t, r, api.Got{})
	wants(t, r, api.Want{Kind: api.WStore, Addr: 8, Value: 33, Rel: true})
	c.X[2], c.PC = 8, 72
	shows(t, r, end{core: c})
	takes(t, r, api.Got{})
	c.PC = 76
	ends(t, r, end{core: c})
}

// P3: the block stays as it is, also what stands behind its operations; what is done with it later is nothing to a run.
func TestBlockNotKept(t *testing.T) {
	b := example()
	room := append(slices.Clone(b.Ops), number(1), number(2), number(3))
	before := slices.Clone(room)
	b.Ops = room[:len(b.Ops)]
	c := withX(1, 8)
	r := begin(t, b, c)
	ir.Right(b)
	ir.Text(b)
	if !slices.Equal(room, before) {
		t.Error(room)
	}
	clear(room)
	wants(t, r, api.Want{Kind: api.WLoad, Addr: 8})
	takes(t, r, api.Got{Value: 5})
	if !slices.Equal(room, make([]api.Op, len(room))) {
		t.Error(room)
	}
	c.X[0], c.PC = 5, 68
	ends(t, r, end{core: c})
}

// P3: a state that was told is the caller's own.
func TestCoreIsCopied(t *testing.T) {
	r := begin(t, example(), withX(1, 8))
	c := r.Core()
	c.X[1], c.PC = 99, 99
	wants(t, r, api.Want{Kind: api.WLoad, Addr: 8})
	c = r.Core()
	c.X[0] = 99
	takes(t, r, api.Got{Value: 5})
	r.Next()
	if r.Core().X[0] != 5 || c.X[0] != 99 {
		t.Error(r.Core().X[0])
	}
}
