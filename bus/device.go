package bus

import (
	"understudy/api"
	"understudy/gic"
)

const (
	width       = 8 // bytes of a register
	deviceSize  = 0x1000
	firstShared = 32
	lowByte     = 0xFF
	maxOut      = 10000 // bytes that the console keeps
)

// span is a range of registers; its methods are told the core that asks, and which register of the range it is, from 0 on.
type span struct {
	first, count uint64
	read         func(b *Bus, core, place int) uint64
	write        func(b *Bus, core, place int, value uint64)
}

// spans are all registers that stand at addresses.
func spans() [8]span {
	return [...]span{
		{api.DeviceBase, 1, (*Bus).enabled, (*Bus).enable},
		{api.DeviceBase + 0x008, 1, (*Bus).enabled, (*Bus).disable},
		{api.DeviceBase + 0x010, 1, (*Bus).pending, (*Bus).latch},
		{api.DeviceBase + 0x018, 1, (*Bus).pending, (*Bus).unlatch},
		{api.DeviceBase + 0x020, 1, (*Bus).active, (*Bus).ignore},
		{api.DeviceBase + 0x200, api.Interrupts, (*Bus).rank, (*Bus).setRank},
		{api.DeviceBase + 0x400, api.Interrupts - firstShared, (*Bus).goes, (*Bus).route},
		{api.ConsoleAt, 1, (*Bus).said, (*Bus).say},
	}
}

// within leans on the wrap: an address below first is far above it.
func within(addr, first, size uint64) bool { return addr-first < size }

// find is the range that has a register just at an address, and its place there.
func find(addr uint64) (span, int, bool) {
	for _, s := range spans() {
		off := addr - s.first
		if within(addr, s.first, s.count*width) && off%width == 0 {
			return s, int(off / width), true
		}
	}
	return span{}, 0, false
}

func (b *Bus) enabled(core, _ int) uint64 { return b.gather(core, (*gic.Gic).Enabled) }
func (b *Bus) pending(core, _ int) uint64 { return b.gather(core, (*gic.Gic).Pending) }
func (b *Bus) active(core, _ int) uint64  { return b.gather(core, (*gic.Gic).Active) }

// gather is the bits of the interrupts of which is holds.
func (b *Bus) gather(core int, is func(g *gic.Gic, core, id int) bool) uint64 {
	sum := uint64(0)
	for id := range api.Interrupts {
		if is(b.gic, core, id) {
			sum |= 1 << id
		}
	}
	return sum
}

func (b *Bus) enable(core, _ int, value uint64)  { b.spread(core, value, (*gic.Gic).Enable, true) }
func (b *Bus) disable(core, _ int, value uint64) { b.spread(core, value, (*gic.Gic).Enable, false) }
func (b *Bus) latch(core, _ int, value uint64)   { b.spread(core, value, (*gic.Gic).Pend, true) }
func (b *Bus) unlatch(core, _ int, value uint64) { b.spread(core, value, (*gic.Gic).Pend, false) }
func (b *Bus) ignore(_, _ int, _ uint64)         {}

// spread sets the interrupts whose bits value has, and leaves the others.
func (b *Bus) spread(core int, value uint64, set func(g *gic.Gic, core, id int, on bool) api.Errno, on bool) {
	for id := range api.Interrupts {
		if value>>id&1 == 1 {
			set(b.gic, core, id, on)
		}
	}
}

func (b *Bus) rank(core, id int) uint64 { return uint64(b.gic.Rate(core, id)) }

func (b *Bus) setRank(core, id int, value uint64) { b.gic.Rank(core, id, int(value&lowByte)) }

func (b *Bus) goes(_, place int) uint64 { return uint64(b.gic.Goes(firstShared + place)) }

// route holds the whole value against the cores, as it may be none of an int.
func (b *Bus) route(_, place int, value uint64) {
	if value < uint64(b.cores) {
		b.gic.Route(firstShared+place, int(value))
	}
}

func (b *Bus) said(_, _ int) uint64 { return uint64(len(b.out)) }

func (b *Bus) say(_, _ int, value uint64) {
	if len(b.out) < maxOut {
		b.out = append(b.out, byte(value))
	}
}
