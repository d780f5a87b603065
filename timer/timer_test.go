package timer_test

import (
	"math/rand"
	"testing"

	"understudy/api"
	"understudy/timer"
)

func cval(core int, value uint64) deed { return deed{core, api.SysCval, value} }
func ctl(core int, value uint64) deed  { return deed{core, api.SysCtl, value} }
func tick(n uint64) deed               { return deed{0, ticking, n} }

func wantNext(t *testing.T, x *timer.Timer, core int, wait uint64, ok bool) {
	t.Helper()
	if c, n, is := x.Next(); c != core || n != wait || is != ok {
		t.Errorf("Next: %d, %d, %v, not %d, %d, %v", c, n, is, core, wait, ok)
	}
}

func wantHigh(t *testing.T, x *timer.Timer, core int, high bool) {
	t.Helper()
	if x.High(core) != high {
		t.Errorf("High(%d) is not %v", core, high)
	}
}

func wantRead(t *testing.T, x *timer.Timer, core, sys int, value uint64) {
	t.Helper()
	if v, e := x.Read(core, sys); v != value || e != api.OK {
		t.Errorf("Read(%d, %#x): %#x, %v, not %#x", core, sys, v, e, value)
	}
}

// P11.1: what a new timer of each count of cores tells, written out.
func TestNew(t *testing.T) {
	for cores := 1; cores <= 8; cores++ {
		x := made(t, cores)
		var want state
		for core := cores; core < len(want.of); core++ {
			want.of[core].e = [3]api.Errno{1, 1, 1}
		}
		if s := asked(x); s != want {
			t.Error(cores, s)
		}
	}
}

// P11.1: counts that may not be: ErrArg, and no timer.
func TestNewWrong(t *testing.T) {
	for _, n := range append(upFrom(9, 80), 0) {
		if x, e := timer.New(n); x != nil || e != api.ErrArg {
			t.Error(n, e)
		}
	}
}

// The chapter's table of examples, line by line, with one timer as it is told there.
func TestExamples(t *testing.T) {
	x := made(t, 2)
	if e, e1 := x.Write(1, api.SysCval, 10), x.Write(1, api.SysCtl, 1); e != api.OK || e1 != api.OK {
		t.Error(e, e1)
	}
	wantHigh(t, x, 1, false)
	wantNext(t, x, 1, 10, true)

	x.Tick(10)
	wantHigh(t, x, 1, true)
	wantRead(t, x, 1, api.SysCtl, 5)
	wantNext(t, x, 0, 0, false)

	if e := x.Write(1, api.SysCtl, 3); e != api.OK {
		t.Error(e)
	}
	wantHigh(t, x, 1, false)
	wantRead(t, x, 1, api.SysCtl, 7)

	if e := x.Write(0, api.SysCnt, 1); e != api.ErrArg {
		t.Error(e)
	}
	if v, e := x.Read(2, api.SysCnt); v != 0 || e != api.ErrArg {
		t.Error(v, e)
	}
}

// P11.1: Tick by each number from each count, past the end too; the count is one for all cores, and touches no register.
func TestTick(t *testing.T) {
	for _, from := range counts() {
		for _, n := range counts() {
			b := pair(t, 3)
			b.do(t, cval(0, 10), ctl(0, 1), cval(1, 1<<63), ctl(1, 1), cval(2, 1<<64-1), ctl(2, 3))
			b.do(t, tick(from))
			if c := b.x.Count(); c != from {
				t.Fatal(from, c)
			}
			b.do(t, tick(n))
			if c := b.x.Count(); c != from+n {
				t.Fatal(from, n, c)
			}
			b.check(t)
		}
	}
}

// P11.1: at the end the count begins anew.
func TestTickWraps(t *testing.T) {
	x := made(t, 1)
	for _, step := range []struct{ n, count uint64 }{{5, 5}, {0, 5}, {1<<64 - 6, 1<<64 - 1}, {1, 0}, {1<<64 - 1, 1<<64 - 1}, {1<<64 - 1, 1<<64 - 2}, {1 << 63, 1<<63 - 2}, {1 << 63, 1<<64 - 2}, {4, 2}} {
		x.Tick(step.n)
		if c := x.Count(); c != step.count {
			t.Error(step, c)
		}
		wantRead(t, x, 0, api.SysCnt, step.count)
	}
}

// busy is a timer in whose state each part is somewhere else than at the beginning, with lines that are high and low.
func busy(t *testing.T, cores int) both {
	b := pair(t, cores)
	b.do(t, tick(1<<40))
	for core := range cores {
		b.do(t, cval(core, 1<<40+uint64(core*3-8)), ctl(core, uint64(core*3+1)&3))
	}
	b.check(t)
	return b
}

// P11.2, P11.3, P2: no such core: ErrArg beside 0, false, and nothing has changed.
func TestNoSuchCore(t *testing.T) {
	for _, cores := range []int{1, 2, 7, 8} {
		b := busy(t, cores)
		for _, core := range upFrom(cores, 80) {
			for _, sys := range append(odd(), api.SysCnt, api.SysCtl, api.SysCval, api.SysVbar) {
				if v, e := b.x.Read(core, sys); v != 0 || e != api.ErrArg {
					t.Fatal("Read", cores, core, sys, v, e)
				}
				for _, value := range []uint64{0, 1, 3, 1 << 50} {
					if e := b.x.Write(core, sys, value); e != api.ErrArg {
						t.Fatal("Write", cores, core, sys, e)
					}
				}
			}
			wantHigh(t, b.x, core, false)
		}
		b.check(t)
	}
}

// strange are numbers of no register, those of other parts of a core and those that look like one of the timer in their lowest bits among them.
func strange() []int {
	out := odd()
	for n := range 1 << 16 {
		if n != api.SysCnt && n != api.SysCtl && n != api.SysCval {
			out = append(out, n)
		}
	}
	for _, sys := range []int{api.SysCnt, api.SysCtl, api.SysCval} {
		out = append(out, -sys, sys|1<<15, sys|1<<16, sys|1<<31, sys|1<<32, sys|-1<<16, sys|-1<<63)
	}
	return out
}

// P11.2, P2: no such register: ErrArg beside 0, and nothing has changed.
func TestNoSuchRegister(t *testing.T) {
	b := busy(t, 3)
	for _, sys := range strange() {
		for core := range 3 {
			if v, e := b.x.Read(core, sys); v != 0 || e != api.ErrArg {
				t.Fatal("Read", core, sys, v, e)
			}
			if e := b.x.Write(core, sys, 3); e != api.ErrArg {
				t.Fatal("Write", core, sys, e)
			}
		}
	}
	b.check(t)
}

// P11.2, P2: the count is not written, whatever it was and whatever is written.
func TestCountIsNotWritten(t *testing.T) {
	for _, from := range counts() {
		b := busy(t, 8)
		b.do(t, tick(from))
		for core := range 8 {
			for _, value := range counts() {
				if e := b.x.Write(core, api.SysCnt, value); e != api.ErrArg {
					t.Fatal(core, value, e)
				}
			}
		}
		b.check(t)
	}
}

// P11.2: CVAL is what was written, all of its bits, of that core alone, whatever CTL is.
func TestCval(t *testing.T) {
	for _, value := range counts() {
		for how := range uint64(4) {
			for core := range 8 {
				b := busy(t, 8)
				b.do(t, ctl(core, how), cval(core, value))
				wantRead(t, b.x, core, api.SysCval, value)
				b.check(t)
				b.do(t, cval(core, ^value))
				wantRead(t, b.x, core, api.SysCval, ^value)
				b.check(t)
			}
		}
	}
}

// P11.2: of CTL the bits 1 and 2 alone stay as they were written; what is written into ISTATUS and above it is nothing.
func TestCtlBits(t *testing.T) {
	values := counts()
	for k := range 64 {
		values = append(values, 1<<k, 1<<k|1, 1<<k|2, 1<<k|3, ^(uint64(1) << k))
	}
	for _, value := range values {
		b := pair(t, 2)
		b.do(t, cval(0, 5), cval(1, 5), ctl(1, value))
		wantRead(t, b.x, 1, api.SysCtl, value&3)
		wantRead(t, b.x, 0, api.SysCtl, 0)
		b.check(t)
		b.do(t, tick(5))
		wantRead(t, b.x, 1, api.SysCtl, value&3+value&1*4)
		b.check(t)
		b.do(t, ctl(1, 0))
		wantRead(t, b.x, 1, api.SysCtl, 0)
		b.check(t)
	}
}

// P11.2, P11.3: ISTATUS and the line at the edge of the moment, for each CTL and each CVAL: one ahead of it, there, one behind it.
func TestMoment(t *testing.T) {
	for _, at := range counts() {
		for how, row := range [][2]uint64{{0, 0}, {1, 5}, {2, 2}, {3, 7}} {
			for _, off := range []uint64{1<<64 - 1, 0, 1} {
				b := pair(t, 1)
				b.do(t, cval(0, at), ctl(0, uint64(how)), tick(at+off))
				come := 0
				if at+off >= at {
					come = 1
				}
				wantRead(t, b.x, 0, api.SysCtl, row[come])
				wantHigh(t, b.x, 0, how == 1 && come == 1)
				if how == 1 && come == 0 {
					wantNext(t, b.x, 0, -off, true)
				} else {
					wantNext(t, b.x, 0, 0, false)
				}
				b.check(t)
			}
		}
	}
}

// P11.3: a line is high no more when its moment is put off, when it is masked or not enabled, when the count begins anew; and is again, when that is undone.
func TestLineFalls(t *testing.T) {
	x := made(t, 2)
	x.Write(0, api.SysCval, 100)
	x.Write(0, api.SysCtl, 1)
	x.Tick(150)
	for _, step := range []struct {
		d    deed
		high bool
	}{
		{cval(0, 151), false}, {cval(0, 150), true}, {ctl(0, 3), false}, {ctl(0, 1), true}, {ctl(0, 0), false},
		{ctl(0, 2), false}, {ctl(0, 5), true}, {tick(1<<64 - 1), false}, {tick(1), true}, {cval(1, 1), true}, {ctl(1, 3), true},
	} {
		apply(x, step.d)
		wantHigh(t, x, 0, step.high)
		wantHigh(t, x, 1, false)
	}
}

// P11.3: Next takes the least CVAL, of several the least number, whatever the order in which they were written.
func TestNextOrder(t *testing.T) {
	for _, rows := range [][]uint64{
		{8, 7, 6, 5, 4, 3, 2, 1}, {1, 2, 3, 4, 5, 6, 7, 8}, {5, 5, 5, 5, 5, 5, 5, 5}, {9, 3, 9, 3, 9, 3, 9, 3},
		{1<<64 - 1, 1 << 63, 1<<63 - 1, 1 << 63, 1<<63 - 1, 1<<63 + 1, 1<<64 - 1, 1 << 63}, {7, 7, 0, 7, 4, 0, 4, 0},
	} {
		for turn := range rows {
			b := pair(t, len(rows))
			for k := range rows {
				core := (turn + k*3) % len(rows)
				b.do(t, cval(core, rows[core]), ctl(core, 1))
			}
			left := map[uint64]int{}
			for core := len(rows) - 1; core >= 0; core-- {
				left[rows[core]] = core
			}
			least := ^uint64(0)
			for at := range left {
				if at != 0 {
					least = min(least, at)
				}
			}
			wantNext(t, b.x, left[least], least, true)
			b.check(t)
		}
	}
}

// P11.3: how far the moment is: at the least 1, at the most 2^64 - 1; one that is at the count, or below it, does not come.
func TestNextFar(t *testing.T) {
	for _, from := range counts() {
		for _, at := range counts() {
			x := made(t, 8)
			x.Tick(from)
			x.Write(7, api.SysCval, at)
			x.Write(7, api.SysCtl, 1)
			if at > from {
				wantNext(t, x, 7, at-from, true)
			} else {
				wantNext(t, x, 0, 0, false)
			}
		}
	}
}

// each calls see with three cores in all ways: CTL of each, and CVAL below, at and above the count, far from it and near.
func each(t *testing.T, count uint64, see func(both)) {
	offs := []uint64{1<<64 - 1, 0, 1, 2, 3}
	ways := 4 * len(offs)
	for k := range ways * ways * ways {
		b := pair(t, 3)
		b.do(t, tick(count))
		for core, left := 0, k; core < 3; core, left = core+1, left/ways {
			b.do(t, cval(core, count+offs[left%ways/4]), ctl(core, uint64(left%4)))
		}
		see(b)
	}
}

// P11.1 to P11.3: three cores in all ways: everything that is told is as the history has it.
func TestAllWays(t *testing.T) {
	for _, count := range []uint64{0, 10, 1<<63 - 2, 1<<64 - 2} {
		each(t, count, func(b both) { b.check(t) })
	}
}

// highs are the lines of three cores.
func highs(x *timer.Timer) [3]bool { return [3]bool{x.High(0), x.High(1), x.High(2)} }

// P11.4: by Tick of just what Next told that core's line is high, and of one less no line has changed: three cores in all ways, until none comes any more.
func TestNextComes(t *testing.T) {
	for _, count := range []uint64{10, 1<<63 - 2, 1<<64 - 5} {
		each(t, count, func(b both) {
			for range 4 {
				core, n, ok := b.x.Next()
				if !ok {
					return
				}
				if n < 1 || n > 3 {
					t.Fatal(b.h.done, core, n)
				}
				was := highs(b.x)
				for range n - 1 {
					b.do(t, tick(1))
					if highs(b.x) != was {
						t.Fatal(b.h.done, was, highs(b.x))
					}
					wantNext(t, b.x, core, b.h.cval(core)-b.x.Count(), true)
				}
				b.do(t, tick(1))
				if !b.x.High(core) || was[core] {
					t.Fatal(b.h.done, core)
				}
			}
			t.Fatal(b.h.done, "one comes for ever")
		})
	}
}

// P11.4: the same in leaps, of moments that are far away.
func TestNextComesFar(t *testing.T) {
	for _, a := range counts() {
		for _, c := range counts() {
			b := pair(t, 3)
			b.do(t, cval(0, a), ctl(0, 1), cval(2, c), ctl(2, 1))
			for range 3 {
				core, n, ok := b.x.Next()
				if !ok {
					break
				}
				was := highs(b.x)
				b.do(t, tick(n-1))
				if highs(b.x) != was {
					t.Fatal(a, c, was)
				}
				b.do(t, tick(1))
				if !b.x.High(core) || was[core] {
					t.Fatal(a, c, core)
				}
			}
			if highs(b.x) != [3]bool{true, false, true} || b.x.Count() != max(a, c) {
				t.Fatal(a, c, b.x.Count())
			}
		}
	}
}

// P4: what is asked changes nothing, however often, and two timers share nothing.
func TestApart(t *testing.T) {
	b, c := busy(t, 4), pair(t, 4)
	first := asked(b.x)
	for range 20 {
		if asked(b.x) != first {
			t.Fatal("changed by asking")
		}
	}
	c.check(t)
	c.do(t, tick(77), cval(0, 3), ctl(0, 1), cval(3, 1<<41), ctl(3, 1))
	c.check(t)
	if asked(b.x) != first {
		t.Error("changed by another timer")
	}
	b.check(t)
}

// some is a deed of any kind, now and then a wrong one; moments are near the count, so that lines rise and fall.
func some(r *rand.Rand, b both) deed {
	d := deed{core: r.Intn(b.h.cores), sys: []int{api.SysCtl, api.SysCval, ticking}[r.Intn(3)]}
	switch d.sys {
	case api.SysCtl:
		d.value = []uint64{1, 1, 1, 0, 2, 3, r.Uint64()}[r.Intn(7)]
	case api.SysCval:
		d.value = []uint64{b.x.Count() + uint64(r.Intn(40)), b.x.Count() - uint64(r.Intn(9)), r.Uint64()}[r.Intn(3)]
	default:
		d.value = []uint64{uint64(r.Intn(12)), uint64(r.Intn(12)), r.Uint64(), 0}[r.Intn(4)]
		if _, n, ok := b.x.Next(); ok && r.Intn(2) == 0 {
			d.value = n - uint64(r.Intn(2))
		}
	}
	if r.Intn(12) == 0 {
		d.sys, d.value = []int{api.SysCnt, api.SysVbar, api.SysPmr, 0}[r.Intn(4)], r.Uint64()
	}
	if r.Intn(12) == 0 {
		d.core = []int{b.h.cores, -1, 8, 1 << 40}[r.Intn(4)]
	}
	return d
}

// P11.1 to P11.4, P2: long scripts of all deeds: all that is answered and told is as the history has it.
func TestScripts(t *testing.T) {
	r := rand.New(rand.NewSource(11))
	for cores := 1; cores <= 8; cores++ {
		for range 12 {
			b := pair(t, cores)
			for range 150 {
				b.do(t, some(r, b))
				b.check(t)
			}
		}
	}
}
