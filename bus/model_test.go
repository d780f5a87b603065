package bus_test

import (
	"math"
	"testing"

	"understudy/api"
	"understudy/bus"
	"understudy/gic"
	"understudy/timer"
)

// odd are numbers that are no core, no count of cores, no level and no system register, some of which look like one in their lowest bits.
func odd() []int {
	return []int{-1, -2, -8, -9, -256, 256, 257, 1 << 16, 1 << 31, 1 << 32, 1<<32 + 1, 1<<32 + 7, 1<<62 + 1, -1 << 32, -1<<32 + 1, math.MaxInt, math.MinInt, math.MinInt + 1}
}

// upFrom are the odd numbers, and those from first up to a last one.
func upFrom(first, last int) []int {
	out := odd()
	for n := first; n <= last; n++ {
		out = append(out, n)
	}
	return out
}

// values are numbers at the edges of 64 bits and of the fields that registers have, and some between.
func values() []uint64 {
	return []uint64{0, 1, 2, 7, 8, 0xFF, 0x100, 0x1FF, 1<<15 + 3, 1<<16 - 1, 1 << 16, 1<<24 - 1, 1<<24 + 5, 1<<27 + 1, 1<<31 - 1, 1 << 32, 1<<32 + 1, 1<<40 - 1, 1 << 40, 1<<40 + 9<<24 + 2, 1<<41 + 3, 1<<63 - 1, 1 << 63, 1<<63 + 1, 1<<64 - 1}
}

// The kinds of deeds.
const (
	reading = iota
	writing
	asking // Sys
	setting
	ticking
)

// deed is one call of the bus; value is how much a Tick is.
type deed struct {
	kind, core, el, sys int
	addr, value         uint64
}

// answer is what a deed's call answers.
type answer struct {
	value uint64
	fault int
}

func rd(core int, addr uint64) deed { return deed{kind: reading, core: core, addr: addr} }
func wr(core int, addr, value uint64) deed {
	return deed{kind: writing, core: core, addr: addr, value: value}
}
func mrs(core, el, sys int) deed { return deed{kind: asking, core: core, el: el, sys: sys} }
func msr(core, el, sys int, value uint64) deed {
	return deed{kind: setting, core: core, el: el, sys: sys, value: value}
}
func tick(n uint64) deed { return deed{kind: ticking, value: n} }

// apply makes the call of a deed.
func apply(b *bus.Bus, d deed) answer {
	switch d.kind {
	case reading:
		v, f := b.Read(d.core, d.addr)
		return answer{v, f}
	case writing:
		return answer{fault: b.Write(d.core, d.addr, d.value)}
	case asking:
		v, f := b.Sys(d.core, d.el, d.sys)
		return answer{v, f}
	case setting:
		return answer{fault: b.SetSys(d.core, d.el, d.sys, d.value)}
	}
	b.Tick(d.value)
	return answer{}
}

// twin is a GIC and a timer of their own, to which all is done by their own calls, as the chapter's words have it.
type twin struct {
	cores int
	g     *gic.Gic
	x     *timer.Timer
	out   string
}

func (w *twin) does(d deed) answer {
	there := d.core >= 0 && d.core < w.cores
	switch d.kind {
	case reading, writing:
		a := answer{fault: 1}
		if there && d.kind == reading {
			a = w.reads(d)
		} else if there {
			a = w.writes(d)
		}
		return a
	case asking, setting:
		a := answer{fault: 2}
		if there && (d.el == 0 || d.el == 1) && d.kind == asking {
			a = w.asks(d)
		} else if there && (d.el == 0 || d.el == 1) {
			a = w.sets(d)
		}
		return a
	}
	w.x.Tick(d.value)
	w.lines()
	return answer{}
}

// lines gives each core's interrupt 27 the timer's line.
func (w *twin) lines() {
	for core := range w.cores {
		w.g.Line(core, 27, w.x.High(core))
	}
}

// slot is the interrupt of an address among those that begin somewhere with the register of a first interrupt and go up to 63; -1, if it is none of them.
func slot(addr, begin uint64, first int) int {
	for id := first; id < 64; id++ {
		if addr == begin+8*uint64(id-first) {
			return id
		}
	}
	return -1
}

// bit is the value of an interrupt's bit, if on.
func bit(on bool, id int) uint64 {
	if on {
		return 1 << id
	}
	return 0
}

func (w *twin) reads(d deed) answer {
	var enabled, pending, active uint64
	for id := range 64 {
		enabled += bit(w.g.Enabled(d.core, id), id)
		pending += bit(w.g.Pending(d.core, id), id)
		active += bit(w.g.Active(d.core, id), id)
	}
	switch d.addr {
	case 0x08000000, 0x08000008:
		return answer{value: enabled}
	case 0x08000010, 0x08000018:
		return answer{value: pending}
	case 0x08000020:
		return answer{value: active}
	case 0x09000000:
		return answer{value: uint64(len(w.out))}
	}
	if id := slot(d.addr, 0x08000200, 0); id >= 0 {
		return answer{value: uint64(w.g.Rate(d.core, id))}
	}
	if id := slot(d.addr, 0x08000400, 32); id >= 0 {
		return answer{value: uint64(w.g.Goes(id))}
	}
	return answer{fault: 1}
}

func (w *twin) writes(d deed) answer {
	rank, route := slot(d.addr, 0x08000200, 0), slot(d.addr, 0x08000400, 32)
	switch {
	case d.addr == 0x08000020:
	case d.addr == 0x09000000:
		if len(w.out) < 10000 {
			w.out += string([]byte{byte(d.value % 256)})
		}
	case rank >= 0:
		w.g.Rank(d.core, rank, int(d.value%256))
	case route >= 0:
		if d.value < uint64(w.cores) {
			w.g.Route(route, int(d.value))
		}
	case d.addr == 0x08000000 || d.addr == 0x08000008 || d.addr == 0x08000010 || d.addr == 0x08000018:
		for id, left := 0, d.value; left > 0; id, left = id+1, left/2 {
			switch {
			case left%2 == 0:
			case d.addr < 0x08000010:
				w.g.Enable(d.core, id, d.addr == 0x08000000)
			default:
				w.g.Pend(d.core, id, d.addr == 0x08000010)
			}
		}
	default:
		return answer{fault: 1}
	}
	return answer{}
}

func (w *twin) asks(d deed) answer {
	switch {
	case d.sys == 0x5F02 || d.sys == 0x5F19 || d.sys == 0x5F1A:
		v, _ := w.x.Read(d.core, d.sys)
		return answer{value: v}
	case d.sys == 0x4660 && d.el == 1:
		return answer{value: uint64(w.g.Ack(d.core))}
	case d.sys == 0x4230 && d.el == 1:
		return answer{value: uint64(w.g.Limit(d.core))}
	}
	return answer{fault: 2}
}

func (w *twin) sets(d deed) answer {
	switch {
	case d.sys == 0x5F19 || d.sys == 0x5F1A:
		w.x.Write(d.core, d.sys, d.value)
		w.lines()
	case d.sys == 0x4230 && d.el == 1:
		w.g.Mask(d.core, int(d.value%256))
	case d.sys == 0x4661 && d.el == 1:
		w.g.Eoi(d.core, int(d.value%(1<<24)))
	case d.sys == 0x465D && d.el == 1:
		others := d.value/(1<<40)%2 == 1
		for core := range w.cores {
			if others && core != d.core || !others && d.value/bit(true, core)%2 == 1 {
				w.g.Send(int(bit(true, core)), int(d.value/(1<<24)%16))
			}
		}
	default:
		return answer{fault: 2}
	}
	return answer{}
}

// state is all that is told of a GIC, a timer and the console; cores past their own have their zero value.
type state struct {
	of [api.MaxCores][api.Interrupts]struct {
		enabled, pending, active bool
		rank                     int
	}
	goes [api.Interrupts]int
	each [api.MaxCores]struct {
		limit, running, best int
		any, high            bool
		ctl, cval            uint64
	}
	count uint64
	out   string
}

// asked asks for all of it.
func asked(g *gic.Gic, x *timer.Timer, out string) state {
	s := state{count: x.Count(), out: out}
	for core := range api.MaxCores {
		for id := range api.Interrupts {
			o := &s.of[core][id]
			o.enabled, o.pending, o.active, o.rank = g.Enabled(core, id), g.Pending(core, id), g.Active(core, id), g.Rate(core, id)
		}
		c := &s.each[core]
		c.limit, c.running, c.high = g.Limit(core), g.Running(core), x.High(core)
		c.best, c.any = g.Best(core)
		c.ctl, _ = x.Read(core, api.SysCtl)
		c.cval, _ = x.Read(core, api.SysCval)
	}
	for id := range api.Interrupts {
		s.goes[id] = g.Goes(id)
	}
	return s
}

func seen(b *bus.Bus) state { return asked(b.Gic(), b.Timer(), b.Out()) }

func made(t *testing.T, cores int) *bus.Bus {
	t.Helper()
	b, e := bus.New(cores)
	if b == nil || e != api.OK {
		t.Fatal("New", cores, e)
	}
	return b
}

// both is a bus with its twin.
type both struct {
	b *bus.Bus
	w *twin
}

func pair(t *testing.T, cores int) both {
	t.Helper()
	g, e := gic.New(cores)
	x, e1 := timer.New(cores)
	if e != api.OK || e1 != api.OK {
		t.Fatal(cores, e, e1)
	}
	return both{made(t, cores), &twin{cores: cores, g: g, x: x}}
}

// do does deeds to a bus and to its twin, and holds what they answer against each other.
func (p both) do(t *testing.T, all ...deed) {
	t.Helper()
	for _, d := range all {
		want := p.w.does(d)
		if got := apply(p.b, d); got != want {
			t.Fatalf("%+v: %+v, not %+v", d, got, want)
		}
	}
}

// check holds all that a bus tells against its twin.
func (p both) check(t *testing.T) {
	t.Helper()
	if got, want := seen(p.b), asked(p.w.g, p.w.x, p.w.out); got != want {
		t.Fatalf("%+v, not %+v", got, want)
	}
}
