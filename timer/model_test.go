package timer_test

import (
	"math"
	"math/big"
	"testing"

	"understudy/api"
	"understudy/timer"
)

// odd are numbers that are no core, no count of cores and no register, some of which look like one in their lowest bits.
func odd() []int {
	return []int{-1, -2, -8, -9, -256, 256, 257, 1 << 16, 1 << 31, 1 << 32, 1<<32 + 1, 1<<32 + 7, 1<<62 + 1, -1 << 32, -1<<32 + 1, math.MaxInt, math.MinInt, math.MinInt + 1}
}

// upFrom are the odd numbers, and those from first up to a last one.
func upFrom(first, last int) []int {
	out := odd()
	for n := first; n <= last; n++ {
		out = append(out, n)
	}
	return out
}

// counts are numbers at the edges of 64 bits with and without signs, and some between.
func counts() []uint64 {
	return []uint64{0, 1, 2, 9, 10, 11, 1<<31 - 1, 1 << 31, 1<<32 - 1, 1 << 32, 1<<53 + 1, 1<<63 - 1, 1 << 63, 1<<63 + 1, 1<<64 - 2, 1<<64 - 1}
}

// ticking is the register of a deed that is a Tick, and writes none.
const ticking = -1

// deed is one call that may change something; value is how much a Tick is.
type deed struct {
	core, sys int
	value     uint64
}

// apply makes the call of a deed.
func apply(x *timer.Timer, d deed) api.Errno {
	if d.sys == ticking {
		x.Tick(d.value)
		return api.OK
	}
	return x.Write(d.core, d.sys, d.value)
}

// history is all that was ever done to a timer of so many cores; what it tells is looked up there, as the chapter's words have it.
type history struct {
	cores int
	done  []deed // without an error
}

// does is what a deed answers, and the history with it.
func (h *history) does(d deed) api.Errno {
	noCore, noReg := d.core < 0 || d.core >= h.cores, d.sys != 0x5F19 && d.sys != 0x5F1A
	if d.sys != ticking && (noCore || noReg) {
		return api.ErrArg
	}
	h.done = append(h.done, d)
	return api.OK
}

// count is the sum of all ticks, reckoned without an end, and what is left of it.
func (h *history) count() uint64 {
	sum := new(big.Int)
	for _, d := range h.done {
		if d.sys == ticking {
			sum.Add(sum, new(big.Int).SetUint64(d.value))
		}
	}
	return sum.Mod(sum, new(big.Int).Lsh(big.NewInt(1), 64)).Uint64()
}

// last is what a core's register was last written with.
func (h *history) last(core, sys int) uint64 {
	for k := len(h.done) - 1; k >= 0; k-- {
		if d := h.done[k]; d.core == core && d.sys == sys {
			return d.value
		}
	}
	return 0
}

func (h *history) cval(core int) uint64 { return h.last(core, 0x5F1A) }
func (h *history) enable(core int) bool { return h.last(core, 0x5F19)%2 == 1 }
func (h *history) imask(core int) bool  { return h.last(core, 0x5F19)/2%2 == 1 }

func (h *history) ctl(core int) uint64 {
	sum := uint64(0)
	if h.enable(core) {
		sum++
	}
	if h.imask(core) {
		sum += 2
	}
	if h.enable(core) && !(h.count() < h.cval(core)) {
		sum += 4
	}
	return sum
}

func (h *history) high(core int) bool {
	return h.enable(core) && !h.imask(core) && !(h.count() < h.cval(core))
}

// next goes through the cores from the last one on, so that of several the least number is left.
func (h *history) next() (int, uint64, bool) {
	first, found := 0, false
	for core := h.cores - 1; core >= 0; core-- {
		waits := h.enable(core) && !h.imask(core) && h.cval(core) > h.count()
		if waits && (!found || h.cval(core) <= h.cval(first)) {
			first, found = core, true
		}
	}
	if !found {
		return 0, 0, false
	}
	return first, h.cval(first) - h.count(), true
}

// state is all that the questions tell of a timer; cores past its own have ErrArg, and the zero values.
type state struct {
	count, wait uint64
	core        int
	any         bool
	of          [api.MaxCores + 1]regs
}

// regs is what is told of one core; e is the error of each of cnt, cval, ctl.
type regs struct {
	cnt, cval, ctl uint64
	e              [3]api.Errno
	high           bool
}

// asked asks for all of it, cores that are not there too.
func asked(x *timer.Timer) state {
	s := state{count: x.Count()}
	s.core, s.wait, s.any = x.Next()
	for core := range s.of {
		o := &s.of[core]
		o.cnt, o.e[0] = x.Read(core, api.SysCnt)
		o.cval, o.e[1] = x.Read(core, api.SysCval)
		o.ctl, o.e[2] = x.Read(core, api.SysCtl)
		o.high = x.High(core)
	}
	return s
}

// told is the same of a history.
func (h *history) told() state {
	s := state{count: h.count()}
	s.core, s.wait, s.any = h.next()
	for core := range s.of {
		o := &s.of[core]
		if core >= h.cores {
			o.e = [3]api.Errno{api.ErrArg, api.ErrArg, api.ErrArg}
			continue
		}
		o.cnt, o.cval, o.ctl, o.high = s.count, h.cval(core), h.ctl(core), h.high(core)
	}
	return s
}

func made(t *testing.T, cores int) *timer.Timer {
	t.Helper()
	x, e := timer.New(cores)
	if x == nil || e != api.OK {
		t.Fatal("New", cores, e)
	}
	return x
}

// both is a timer with its history.
type both struct {
	x *timer.Timer
	h *history
}

func pair(t *testing.T, cores int) both { return both{made(t, cores), &history{cores: cores}} }

// do does deeds to a timer and to its history, and holds what they answer against each other.
func (b both) do(t *testing.T, all ...deed) {
	t.Helper()
	for _, d := range all {
		want := b.h.does(d)
		if e := apply(b.x, d); e != want {
			t.Fatal(b.h.done, d, e, want)
		}
	}
}

// check holds all that a timer tells against its history.
func (b both) check(t *testing.T) {
	t.Helper()
	if got, want := asked(b.x), b.h.told(); got != want {
		t.Fatal(b.h.done, got, want)
	}
}
