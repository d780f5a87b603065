package bus_test

import (
	"math/rand"
	"slices"
	"strings"
	"testing"

	"understudy/api"
	"understudy/bus"
)

const base = api.DeviceBase

// want holds what a deed answers against what is written out.
func want(t *testing.T, b *bus.Bus, d deed, value uint64, fault int) {
	t.Helper()
	if a := apply(b, d); a.value != value || a.fault != fault {
		t.Errorf("%+v: %#x, %d, not %#x, %d", d, a.value, a.fault, value, fault)
	}
}

func wantPending(t *testing.T, b *bus.Bus, id int, at ...bool) {
	t.Helper()
	for core, is := range at {
		if b.Gic().Pending(core, id) != is {
			t.Errorf("pending of %d at %d is not %v", id, core, is)
		}
	}
}

// busy is a bus in whose state each part is somewhere else than at the beginning, with its twin.
func busy(t *testing.T, cores int) both {
	t.Helper()
	p := pair(t, cores)
	for core := range cores {
		n := uint64(core)
		p.do(t, wr(core, base, 0xA5A5_3C3C_0FFF_00F7<<n), wr(core, base+0x10, 0x0F0F_3333_55AA_1248<<n), wr(core, base+8, 0x81<<n))
		for id := range uint64(64) {
			p.do(t, wr(core, base+0x200+8*id, id*3+n))
		}
		for k := range uint64(32) {
			p.do(t, wr(core, base+0x400+8*k, (k+n)%uint64(cores)))
		}
		p.do(t, msr(core, 1, api.SysPmr, 200+n), msr(core, 0, api.SysCval, 20+n), msr(core, 0, api.SysCtl, 1+2*(n/3%2)))
		p.do(t, mrs(core, 1, api.SysIar), wr(core, api.ConsoleAt, 'a'+n))
	}
	p.do(t, tick(23))
	p.check(t)
	return p
}

// P12.1: what a new bus of each count of cores is: a new GIC and a new timer, the same ones at each call, and an empty console.
func TestNew(t *testing.T) {
	for cores := 1; cores <= 8; cores++ {
		p := pair(t, cores)
		p.check(t)
		if p.b.Gic() == nil || p.b.Gic() != p.b.Gic() || p.b.Timer() == nil || p.b.Timer() != p.b.Timer() {
			t.Error(cores, "the parts")
		}
		if p.b.Out() != "" {
			t.Error(cores, p.b.Out())
		}
		if p.b.Gic().Rate(cores-1, 0) != 160 || p.b.Gic().Rate(cores, 0) != 0 {
			t.Error(cores, "cores of the GIC")
		}
		_, e := p.b.Timer().Read(cores-1, api.SysCnt)
		_, e1 := p.b.Timer().Read(cores, api.SysCnt)
		if e != api.OK || e1 != api.ErrArg {
			t.Error(cores, "cores of the timer", e, e1)
		}
	}
}

// P12.1: counts that may not be: ErrArg, and no bus.
func TestNewWrong(t *testing.T) {
	for _, n := range append(upFrom(9, 80), 0) {
		if b, e := bus.New(n); b != nil || e != api.ErrArg {
			t.Error(n, e)
		}
	}
}

// The chapter's table of examples, line by line, with one bus as it is told there.
func TestExamples(t *testing.T) {
	b := made(t, 2)
	want(t, b, wr(1, base, 1<<40+2), 0, 0)
	want(t, b, rd(1, base), 1<<40+2, 0)
	want(t, b, rd(0, base), 1<<40, 0)

	want(t, b, wr(0, base+4, 1), 0, api.Outside)
	want(t, b, rd(0, base+0x600), 0, api.Outside)
	want(t, b, rd(0, 0), 0, api.Outside)

	want(t, b, msr(0, 1, api.SysSgi, 1<<40+5<<24), 0, 0)
	wantPending(t, b, 5, false, true)

	want(t, b, msr(1, 0, api.SysCval, 3), 0, 0)
	want(t, b, msr(1, 0, api.SysCtl, 1), 0, 0)
	b.Tick(3)
	wantPending(t, b, 27, false, true)
	want(t, b, mrs(1, 0, api.SysIar), 0, api.Denied)

	want(t, b, wr(0, api.ConsoleAt, 0x141), 0, 0)
	if b.Out() != "A" {
		t.Errorf("%q", b.Out())
	}
}

// P12.2: which addresses are a device's, at the edges, and at those that are the same but for one bit.
func TestIs(t *testing.T) {
	b := made(t, 1)
	is := func(addr uint64, want bool) {
		t.Helper()
		if b.Is(addr) != want {
			t.Errorf("Is(%#x) is not %v", addr, want)
		}
	}
	for off := range uint64(0x1000) {
		is(0x08000000+off, true)
	}
	for off := range uint64(8) {
		is(0x09000000+off, true)
	}
	for _, addr := range []uint64{0, 1, 8, 0x07FFFFF8, 0x07FFFFFF, 0x08001000, 0x08001008, 0x08FFFFFF, 0x09000008, 0x09000FFF, 0x09001000, 1<<63 - 1, 1 << 63, 1<<64 - 1} {
		is(addr, false)
	}
	for k := range 64 {
		if k > 11 {
			is(0x08000000^1<<k, k == 24)
			is(0x08000FFF^1<<k, false)
		}
		if k > 2 {
			is(0x09000000^1<<k, k == 24)
			is(0x09000007^1<<k, k == 24)
		}
	}
}

// registers are the addresses of all registers, written out by the table's rows.
func registers() []uint64 {
	out := []uint64{0x08000000, 0x08000008, 0x08000010, 0x08000018, 0x08000020, 0x09000000}
	for addr := uint64(0x08000200); addr <= 0x080003F8; addr += 8 {
		out = append(out, addr)
	}
	for addr := uint64(0x08000400); addr <= 0x080004F8; addr += 8 {
		out = append(out, addr)
	}
	return out
}

// P12.2: registers are at their addresses alone: each address of the devices, and those about them, with Read and Write.
func TestWhereRegistersAre(t *testing.T) {
	all := registers()
	if len(all) != 6+64+32 {
		t.Fatal(len(all))
	}
	p := busy(t, 2)
	try := func(addr uint64) {
		if slices.Contains(all, addr) {
			p.do(t, rd(1, addr), wr(1, addr, 0x8040_2010_0804_0201))
			if _, f := p.b.Read(1, addr); f != api.NoFault {
				t.Errorf("Read %#x: %d", addr, f)
			}
			return
		}
		want(t, p.b, rd(1, addr), 0, api.Outside)
		want(t, p.b, wr(1, addr, 0), 0, api.Outside)
		want(t, p.b, wr(1, addr, 1<<64-1), 0, api.Outside)
	}
	for off := range uint64(0x1100) {
		try(0x08000000 - 0x40 + off)
	}
	for off := range uint64(0x80) {
		try(0x09000000 - 0x40 + off)
		try(off)
		try(1<<64 - 1 - off)
	}
	for _, addr := range all {
		for k := 25; k < 64; k++ {
			try(addr ^ 1<<k)
		}
	}
	p.check(t)
}

// P12.2, P2: of a core that is not there: Outside, 0, and nothing has changed, at every register.
func TestNoSuchCore(t *testing.T) {
	for _, cores := range []int{1, 2, 7, 8} {
		p := busy(t, cores)
		for _, core := range upFrom(cores, 20) {
			for _, addr := range registers() {
				want(t, p.b, rd(core, addr), 0, api.Outside)
				want(t, p.b, wr(core, addr, 0), 0, api.Outside)
				want(t, p.b, wr(core, addr, 1<<64-1), 0, api.Outside)
			}
		}
		p.check(t)
	}
}

// P12.2: enabled and not, bit by bit: of 0 to 31 each core has its own, 32 to 63 are for all; other bits stay.
func TestEnabledBits(t *testing.T) {
	for id := range 64 {
		b := made(t, 3)
		one, shared := uint64(1)<<id, uint64(0)
		if id >= 32 {
			shared = one
		}
		want(t, b, wr(1, base, one), 0, 0)
		for core, v := range []uint64{shared, one, shared} {
			want(t, b, rd(core, base), v, 0)
			want(t, b, rd(core, base+8), v, 0)
			if b.Gic().Enabled(core, id) != (v != 0) {
				t.Error(core, id)
			}
		}
		want(t, b, wr(1, base, ^one), 0, 0)
		want(t, b, rd(1, base), 1<<64-1, 0)
		want(t, b, wr(1, base, 0), 0, 0)
		want(t, b, wr(1, base+8, 0), 0, 0)
		want(t, b, rd(1, base), 1<<64-1, 0)
		want(t, b, wr(1, base+8, one), 0, 0)
		want(t, b, rd(1, base), ^one, 0)
		want(t, b, rd(0, base), 0xFFFFFFFF_00000000&^one, 0)
		want(t, b, rd(1, base+0x10), 0, 0)
		want(t, b, wr(1, base+8, 1<<64-1), 0, 0)
		want(t, b, rd(1, base), 0, 0)
	}
}

// P12.2: latched and not, bit by bit.
func TestPendingBits(t *testing.T) {
	for id := range 64 {
		b := made(t, 3)
		one, shared := uint64(1)<<id, uint64(0)
		if id >= 32 {
			shared = one
		}
		want(t, b, wr(2, base+0x10, one), 0, 0)
		for core, v := range []uint64{shared, shared, one} {
			want(t, b, rd(core, base+0x10), v, 0)
			want(t, b, rd(core, base+0x18), v, 0)
			if b.Gic().Pending(core, id) != (v != 0) {
				t.Error(core, id)
			}
		}
		want(t, b, wr(2, base+0x10, ^one), 0, 0)
		want(t, b, wr(2, base+0x18, one), 0, 0)
		want(t, b, rd(2, base+0x10), ^one, 0)
		want(t, b, rd(0, base+0x18), 0xFFFFFFFF_00000000&^one, 0)
		want(t, b, rd(2, base), 0, 0)
		want(t, b, wr(2, base+0x18, 1<<64-1), 0, 0)
		want(t, b, rd(2, base+0x10), 0, 0)
	}
}

// P12.2: what is pending by its line is told, and is there still when it is not latched any more.
func TestPendingLine(t *testing.T) {
	b := made(t, 2)
	for _, id := range []int{16, 27, 31, 40, 63} {
		b.Gic().Line(1, id, true)
	}
	const lines = 1<<16 | 1<<27 | 1<<31 | 1<<40 | 1<<63
	want(t, b, rd(1, base+0x10), lines, 0)
	want(t, b, rd(0, base+0x18), 1<<40|1<<63, 0)
	want(t, b, wr(1, base+0x10, 3), 0, 0)
	want(t, b, rd(1, base+0x10), lines|3, 0)
	want(t, b, wr(1, base+0x18, 1<<64-1), 0, 0)
	want(t, b, rd(1, base+0x10), lines, 0)
}

// P12.2: what is active is told, of a shared one to all cores; to write there is nothing, and no fault.
func TestActiveBits(t *testing.T) {
	for id := range 64 {
		b := made(t, 2)
		one, shared := uint64(1)<<id, uint64(0)
		if id >= 32 {
			shared = one
			want(t, b, wr(0, base+0x400+8*uint64(id-32), 1), 0, 0)
		}
		want(t, b, wr(1, base, one), 0, 0)
		want(t, b, wr(1, base+0x10, one), 0, 0)
		want(t, b, rd(1, base+0x20), 0, 0)
		want(t, b, mrs(1, 1, api.SysIar), uint64(id), 0)
		before := seen(b)
		for _, v := range values() {
			want(t, b, wr(1, base+0x20, v), 0, 0)
			want(t, b, rd(1, base+0x20), one, 0)
			want(t, b, rd(0, base+0x20), shared, 0)
		}
		if seen(b) != before {
			t.Error(id, "changed")
		}
		want(t, b, msr(1, 1, api.SysEoir, uint64(id)), 0, 0)
		want(t, b, rd(1, base+0x20), 0, 0)
	}
}

// P12.2: the rank of each interrupt, of which the value's lowest 8 bits count; a core's own, or for all.
func TestRank(t *testing.T) {
	for id := range uint64(64) {
		b := made(t, 2)
		at := base + 0x200 + 8*id
		want(t, b, rd(1, at), 160, 0)
		for _, v := range append(values(), 254, 160, 0xABCD_0000_0000_0011) {
			want(t, b, wr(1, at, v), 0, 0)
			other := uint64(160)
			if id >= 32 {
				other = v % 256
			}
			want(t, b, rd(1, at), v%256, 0)
			want(t, b, rd(0, at), other, 0)
			if b.Gic().Rate(1, int(id)) != int(v%256) {
				t.Error(id, v)
			}
		}
		for k := range uint64(64) {
			if k != id {
				want(t, b, rd(1, base+0x200+8*k), 160, 0)
			}
		}
	}
}

// P12.2: to which core each shared one goes; a number that is no core's is nothing, whatever its lowest bits are.
func TestRoute(t *testing.T) {
	for cores := 1; cores <= 8; cores++ {
		for k := range uint64(32) {
			p := pair(t, cores)
			b, at := p.b, base+0x400+8*k
			for to := range uint64(cores) {
				want(t, b, wr(cores-1, at, to), 0, 0)
				want(t, b, rd(0, at), to, 0)
				if b.Gic().Goes(int(k)+32) != int(to) {
					t.Error(cores, k, to)
				}
				for _, v := range append(values(), uint64(cores), uint64(cores)+1, 256, 1<<32+to, 1<<63+to) {
					if v >= uint64(cores) {
						want(t, b, wr(0, at, v), 0, 0)
						want(t, b, rd(cores-1, at), to, 0)
					}
				}
			}
			for other := range uint64(32) {
				if other != k {
					want(t, b, rd(0, base+0x400+8*other), 0, 0)
				}
			}
		}
	}
}

// P12.2, P12.4: the console keeps the lowest byte of each value, all 256 of them as they are, from all cores in order, and tells how many.
func TestConsole(t *testing.T) {
	b := made(t, 8)
	var all []byte
	for k := range 1000 {
		v := byte(k * 7)
		if said := b.Out(); said != string(all) {
			t.Fatalf("%d: %q", k, said)
		}
		want(t, b, rd(k%8, api.ConsoleAt), uint64(k), 0)
		want(t, b, wr(k%8, api.ConsoleAt, uint64(v)+uint64(k)<<32+uint64(k)<<8), 0, 0)
		all = append(all, v)
	}
	want(t, b, wr(0, api.ConsoleAt+1, 'x'), 0, api.Outside)
	want(t, b, wr(0, api.ConsoleAt+4, 'x'), 0, api.Outside)
	if b.Out() != string(all) {
		t.Error("changed")
	}
}

// P12.2, P12.4: the console takes 10000 bytes, and what is written behind these is nothing, without a fault; a text that was told stays.
func TestConsoleFull(t *testing.T) {
	b := made(t, 2)
	for range 9999 {
		want(t, b, wr(0, api.ConsoleAt, 'a'), 0, 0)
	}
	short := b.Out()
	want(t, b, rd(1, api.ConsoleAt), 9999, 0)
	want(t, b, wr(1, api.ConsoleAt, 'b'), 0, 0)
	for range 50 {
		want(t, b, rd(1, api.ConsoleAt), 10000, 0)
		want(t, b, wr(1, api.ConsoleAt, 'c'), 0, 0)
	}
	if b.Out() != strings.Repeat("a", 9999)+"b" || short != strings.Repeat("a", 9999) {
		t.Error(len(b.Out()), len(short))
	}
}

// readable and writable say whether a system register may be read, or written, at a level: the chapter's list.
func readable(el, sys int) bool {
	own := sys == 0x5F02 || sys == 0x5F19 || sys == 0x5F1A
	return el == 0 && own || el == 1 && (own || sys == 0x4660 || sys == 0x4230)
}

func writable(el, sys int) bool {
	own := sys == 0x5F19 || sys == 0x5F1A
	return el == 0 && own || el == 1 && (own || sys == 0x4230 || sys == 0x4661 || sys == 0x465D)
}

// P12.3: of all numbers of system registers, at each level, which are Denied; what is Denied changes nothing.
func TestWhichSys(t *testing.T) {
	p := busy(t, 2)
	for _, el := range []int{0, 1} {
		for _, sys := range upFrom(0, 1<<15+10) {
			if a := apply(p.b, mrs(1, el, sys)); (a.fault == api.NoFault) != readable(el, sys) || a.fault != 0 && a != (answer{0, api.Denied}) {
				t.Errorf("Sys of %d, %#x: %+v", el, sys, a)
			}
			if readable(el, sys) {
				p.w.does(mrs(1, el, sys))
			}
			if a := apply(p.b, msr(1, el, sys, 9)); (a.fault == api.NoFault) != writable(el, sys) || a.fault != 0 && a.fault != api.Denied {
				t.Errorf("SetSys of %d, %#x: %+v", el, sys, a)
			}
			if writable(el, sys) {
				p.w.does(msr(1, el, sys, 9))
			}
		}
	}
	p.check(t)
}

// sysAll are the system registers that are read or written anywhere, and some of a core's own state.
func sysAll() []int {
	return []int{api.SysCnt, api.SysCtl, api.SysCval, api.SysIar, api.SysPmr, api.SysEoir, api.SysSgi, api.SysVbar, api.SysMpidr, api.SysNzcv}
}

// P12.3, P2: no such core, or no such level: Denied, 0, and nothing has changed.
func TestSysNoSuch(t *testing.T) {
	for _, cores := range []int{1, 2, 7, 8} {
		p := busy(t, cores)
		for _, sys := range sysAll() {
			for _, v := range []uint64{0, 1, 1<<64 - 1} {
				for _, core := range upFrom(cores, 20) {
					for _, el := range []int{0, 1, 2} {
						want(t, p.b, mrs(core, el, sys), 0, api.Denied)
						want(t, p.b, msr(core, el, sys, v), 0, api.Denied)
					}
				}
				for _, el := range upFrom(2, 9) {
					want(t, p.b, mrs(cores-1, el, sys), 0, api.Denied)
					want(t, p.b, msr(cores-1, el, sys, v), 0, api.Denied)
				}
			}
		}
		p.check(t)
	}
}

// P12.3: the timer's registers, from both levels.
func TestSysTimer(t *testing.T) {
	for _, el := range []int{0, 1} {
		for _, v := range values() {
			b := made(t, 2)
			b.Tick(100)
			want(t, b, mrs(0, el, api.SysCnt), 100, 0)
			want(t, b, msr(0, el, api.SysCnt, v), 0, api.Denied)
			want(t, b, msr(1, el, api.SysCval, v), 0, 0)
			want(t, b, mrs(1, el, api.SysCval), v, 0)
			want(t, b, mrs(0, el, api.SysCval), 0, 0)
			for _, ctl := range []uint64{0, 2, 0xF8, 1, 3, 0xFFFF_FFF9} {
				want(t, b, msr(1, el, api.SysCtl, ctl), 0, 0)
				told := ctl % 4
				if ctl%2 == 1 && v <= 100 {
					told += 4
				}
				want(t, b, mrs(1, el, api.SysCtl), told, 0)
				want(t, b, mrs(0, el, api.SysCtl), 0, 0)
				wantPending(t, b, 27, false, ctl%4 == 1 && v <= 100)
			}
			if n, e := b.Timer().Read(1, api.SysCval); n != v || e != api.OK || b.Timer().Count() != 100 {
				t.Error(v, n, e)
			}
		}
	}
}

// P12.3: SysIar takes what the GIC tells, from el 1 alone; SysEoir ends it by the lowest 24 bits of the value.
func TestSysTake(t *testing.T) {
	b := made(t, 2)
	want(t, b, mrs(0, 1, api.SysIar), 1023, 0)
	b.Write(0, base, 1<<40|1<<9)
	b.Write(0, base+0x10, 1<<40|1<<9)
	b.Write(0, base+0x200+8*40, 20)
	want(t, b, mrs(0, 0, api.SysIar), 0, api.Denied)
	want(t, b, mrs(1, 1, api.SysIar), 1023, 0)
	want(t, b, mrs(0, 1, api.SysIar), 40, 0)
	want(t, b, mrs(0, 1, api.SysIar), 1023, 0)
	if b.Gic().Running(0) != 20 || !b.Gic().Active(0, 40) || b.Gic().Pending(0, 40) {
		t.Error("not taken")
	}
	for _, v := range []uint64{9, 41, 0, 64, 1023, 1<<23 + 40, 0xFFFFFF, 40 + 1<<8, 40 + 1<<16, 1<<64 - 1} {
		want(t, b, msr(0, 1, api.SysEoir, v), 0, 0)
	}
	want(t, b, msr(1, 1, api.SysEoir, 40), 0, 0)
	want(t, b, msr(0, 0, api.SysEoir, 40), 0, api.Denied)
	if b.Gic().Running(0) != 20 || !b.Gic().Active(0, 40) {
		t.Error("ended")
	}
	want(t, b, msr(0, 1, api.SysEoir, 1<<24|1<<63|40), 0, 0)
	if b.Gic().Running(0) != 256 || b.Gic().Active(0, 40) {
		t.Error("not ended")
	}
	want(t, b, mrs(0, 1, api.SysIar), 9, 0)
}

// P12.3: SysPmr is the core's limit, of the value's lowest 8 bits.
func TestSysLimit(t *testing.T) {
	b := made(t, 2)
	want(t, b, mrs(1, 1, api.SysPmr), 255, 0)
	for _, v := range append(values(), 160, 161, 0xFF00_0000_0000_0022) {
		want(t, b, msr(1, 1, api.SysPmr, v), 0, 0)
		want(t, b, mrs(1, 1, api.SysPmr), v%256, 0)
		want(t, b, mrs(0, 1, api.SysPmr), 255, 0)
		if b.Gic().Limit(1) != int(v%256) || b.Gic().Limit(0) != 255 {
			t.Error(v)
		}
		want(t, b, msr(1, 0, api.SysPmr, v+1), 0, api.Denied)
		want(t, b, mrs(1, 0, api.SysPmr), 0, api.Denied)
		want(t, b, mrs(1, 1, api.SysPmr), v%256, 0)
	}
}

// P12.3: SysSgi to the cores whose bits are there: each set of 16 bits, for each count of cores; bits of others are nothing.
func TestSgiTargets(t *testing.T) {
	for cores := 1; cores <= 8; cores++ {
		for _, high := range []uint64{0, 0xAA00, 0xFF00, 0x100} {
			for low := range uint64(256) {
				b := made(t, cores)
				id := (low + high) % 16
				want(t, b, msr(int(low)%cores, 1, api.SysSgi, id<<24|high|low), 0, 0)
				for core := range cores {
					v := uint64(0)
					if low>>core&1 == 1 {
						v = 1 << id
					}
					want(t, b, rd(core, base+0x10), v, 0)
				}
			}
		}
	}
}

// P12.3: SysSgi with the bit 40 to all but the core itself, whatever cores are named; other bits are nothing.
func TestSgiOthers(t *testing.T) {
	const idle = 0xFFFF_FEFF_F0FF_0000 // all bits but 40, the interrupt's and the cores'
	for cores := 1; cores <= 8; cores++ {
		for from := range cores {
			for id := range uint64(16) {
				for _, set := range []uint64{0, 1, 1 << from, 0xFFFF, idle, idle | 0xFFFF} {
					b := made(t, cores)
					want(t, b, msr(from, 1, api.SysSgi, 1<<40|id<<24|set), 0, 0)
					for core := range cores {
						v := uint64(0)
						if core != from {
							v = 1 << id
						}
						want(t, b, rd(core, base+0x10), v, 0)
					}
				}
				b := made(t, cores)
				want(t, b, msr(from, 1, api.SysSgi, idle|id<<24|1<<from), 0, 0)
				want(t, b, rd(from, base+0x10), 1<<id, 0)
				if cores > 1 {
					want(t, b, rd((from+1)%cores, base+0x10), 0, 0)
				}
				before := seen(b)
				want(t, b, msr(from, 0, api.SysSgi, 1<<40|id<<24|0xFFFF), 0, api.Denied)
				if seen(b) != before {
					t.Error(cores, from, id)
				}
			}
		}
	}
}

// P12.1: the line of 27 follows the timer's at each call that may turn it: up and down by Tick, by CTL, by CVAL, for each core alone.
func TestTimerLine(t *testing.T) {
	for core := range 3 {
		b := made(t, 3)
		for k, step := range []struct {
			d    deed
			high bool
		}{
			{msr(core, 0, api.SysCval, 100), false}, {tick(99), false}, {msr(core, 0, api.SysCtl, 1), false}, {tick(1), true}, {tick(0), true},
			{msr(core, 1, api.SysCtl, 3), false}, {msr(core, 1, api.SysCtl, 1), true}, {msr(core, 1, api.SysCval, 101), false}, {msr(core, 0, api.SysCval, 7), true},
			{tick(1<<64 - 94), false}, {tick(1), true}, {msr(core, 0, api.SysCtl, 0), false}, {msr(core, 1, api.SysCtl, 5), true},
			{msr((core+1)%3, 0, api.SysCtl, 2), true}, {msr(core, 0, api.SysCtl, 2), false}, {msr(core, 0, api.SysCtl, 1), true},
		} {
			want(t, b, step.d, 0, 0)
			if b.Timer().High(core) != step.high {
				t.Fatal(core, k, "the timer's line")
			}
			for other := range 3 {
				v := uint64(0)
				if other == core && step.high {
					v = 1 << 27
				}
				want(t, b, rd(other, base+0x10), v, 0)
			}
		}
	}
}

// P12.1: it is a line and no latch: it stays through an acknowledgement and what is unlatched; a latch stays when the line falls.
func TestTimerLineIsNoLatch(t *testing.T) {
	b := made(t, 1)
	b.Write(0, base, 1<<27)
	b.SetSys(0, 0, api.SysCtl, 1)
	want(t, b, mrs(0, 1, api.SysIar), 27, 0)
	want(t, b, rd(0, base+0x10), 1<<27, 0)
	want(t, b, wr(0, base+0x18, 1<<27), 0, 0)
	want(t, b, rd(0, base+0x10), 1<<27, 0)
	want(t, b, msr(0, 1, api.SysEoir, 27), 0, 0)
	want(t, b, mrs(0, 1, api.SysIar), 27, 0)
	want(t, b, msr(0, 1, api.SysEoir, 27), 0, 0)
	want(t, b, msr(0, 0, api.SysCtl, 3), 0, 0)
	want(t, b, rd(0, base+0x10), 0, 0)
	want(t, b, mrs(0, 1, api.SysIar), 1023, 0)

	want(t, b, wr(0, base+0x10, 1<<27), 0, 0)
	b.SetSys(0, 0, api.SysCtl, 1)
	b.SetSys(0, 0, api.SysCtl, 0)
	want(t, b, rd(0, base+0x10), 1<<27, 0)
}

// P12.1: what others do to the timer and the GIC is theirs, until a call of this package that may turn the timer; others than such calls leave the lines.
func TestOthersDo(t *testing.T) {
	turning := []deed{tick(0), msr(0, 0, api.SysCval, 50), msr(1, 1, api.SysCtl, 0)}
	for _, turn := range turning {
		b := made(t, 3)
		b.Timer().Write(2, api.SysCtl, 1)
		b.Gic().Line(1, 27, true)
		for _, d := range []deed{
			rd(2, base+0x10), wr(2, base, 1), wr(2, base+0x18, 1<<64-1), wr(2, api.ConsoleAt, 1), mrs(2, 1, api.SysCtl), mrs(2, 0, api.SysCnt),
			mrs(2, 1, api.SysIar), msr(2, 1, api.SysPmr, 255), msr(2, 1, api.SysEoir, 27), msr(2, 1, api.SysSgi, 0),
			msr(2, 1, api.SysCnt, 0), msr(2, 2, api.SysCtl, 1), msr(3, 1, api.SysCtl, 1),
		} {
			apply(b, d)
			wantPending(t, b, 27, false, true, false)
		}
		want(t, b, turn, 0, 0)
		wantPending(t, b, 27, false, false, true)
	}
}

// P12.1: Tick is the timer's, with its wrap.
func TestTick(t *testing.T) {
	b, sum := made(t, 2), uint64(0)
	for _, n := range append(values(), 5, 1<<64-3) {
		b.Tick(n)
		sum += n
		want(t, b, mrs(1, 0, api.SysCnt), sum, 0)
		if b.Timer().Count() != sum {
			t.Error(n, b.Timer().Count())
		}
	}
}

// P12.1, P12.2: what is done to the parts by others is what the registers tell.
func TestPartsAreTold(t *testing.T) {
	b := made(t, 2)
	b.Gic().Enable(1, 3, true)
	b.Gic().Send(2, 3)
	b.Gic().Rank(1, 3, 7)
	b.Gic().Route(63, 1)
	b.Timer().Tick(9)
	want(t, b, rd(1, base), 8, 0)
	want(t, b, rd(1, base+0x10), 8, 0)
	want(t, b, rd(1, base+0x218), 7, 0)
	want(t, b, rd(0, base+0x4F8), 1, 0)
	want(t, b, mrs(0, 0, api.SysCnt), 9, 0)
	want(t, b, mrs(1, 1, api.SysIar), 3, 0)
}

// P4: what is read changes nothing, however often, and two buses share nothing.
func TestApart(t *testing.T) {
	p, q := busy(t, 4), pair(t, 4)
	before := seen(p.b)
	for range 3 {
		for _, addr := range registers() {
			for core := range 4 {
				p.do(t, rd(core, addr))
				q.do(t, wr(core, addr, 0xFFFF_0000_1234_5603))
			}
		}
		for _, sys := range []int{api.SysCnt, api.SysCtl, api.SysCval, api.SysPmr} {
			p.do(t, mrs(3, 1, sys))
			q.do(t, msr(3, 1, sys, 1))
		}
		q.do(t, tick(500))
	}
	q.check(t)
	if seen(p.b) != before {
		t.Error("changed")
	}
	p.check(t)
}

// some is a deed of any kind, now and then a wrong one; moments are near the count, so that lines rise and fall.
func some(r *rand.Rand, p both) deed {
	d := deed{kind: r.Intn(5), core: r.Intn(p.w.cores), el: r.Intn(2), value: r.Uint64()}
	all := registers()
	d.addr = []uint64{base + 8*uint64(r.Intn(5)), all[r.Intn(len(all))], all[r.Intn(len(all))]}[r.Intn(3)]
	d.sys = sysAll()[r.Intn(7)]
	d.value >>= []int{0, 0, 24, 40, 56, 61}[r.Intn(6)]
	switch {
	case d.kind == ticking:
		d.value = []uint64{uint64(r.Intn(12)), uint64(r.Intn(12)), d.value}[r.Intn(3)]
	case d.kind == setting && d.sys == api.SysCval:
		d.value = p.w.x.Count() + uint64(r.Intn(40)) - 5
	case d.kind == setting && d.sys == api.SysEoir:
		d.value = uint64(r.Intn(64)) + uint64(r.Intn(2))<<24
	case d.kind == setting && d.sys == api.SysPmr:
		d.value |= 0xC0
	}
	if r.Intn(15) == 0 {
		d.core = []int{p.w.cores, -1, 8, 1 << 40}[r.Intn(4)]
	}
	if r.Intn(15) == 0 {
		d.addr, d.sys = d.addr^1<<r.Intn(14), sysAll()[r.Intn(10)]
	}
	if r.Intn(15) == 0 {
		d.el = []int{2, 3, -1}[r.Intn(3)]
	}
	return d
}

// P12.1 to P12.4, P2: long scripts of all deeds: all that is answered and told is as the twin has it.
func TestScripts(t *testing.T) {
	r := rand.New(rand.NewSource(12))
	for cores := 1; cores <= 8; cores++ {
		for range 6 {
			p := pair(t, cores)
			for range 400 {
				p.do(t, some(r, p))
				p.check(t)
			}
		}
	}
}
