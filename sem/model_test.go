package sem_test

import (
	"math/big"
	"math/rand"
	"testing"

	"understudy/api"
	"understudy/bits"
	"understudy/code"
)

// model is the chapter told again, without the layers ahead (but for the masks of bits): an instruction, the state that it has, what came of it.
type model struct {
	i   api.Insn
	c   api.Core
	got api.Got
}

func (m *model) x(r int) uint64 {
	if r == 31 {
		return 0
	}
	return m.c.X[r]
}

func (m *model) put(r int, value uint64) {
	if r < 31 {
		m.c.X[r] = value
	}
}

func (m *model) withSP(r int) *uint64 {
	if r == 31 {
		return &m.c.SP[m.c.EL]
	}
	return &m.c.X[r]
}

// mayNot: the three sentences of P6.2 behind the table.
func (m *model) mayNot() bool {
	i := m.i
	type access struct{ op, sys int }
	a := access{i.Op, i.Sys}
	if m.c.EL == 1 {
		return a == access{api.Msr, api.SysMpidr} || a == access{api.Msr, api.SysEl} || a == access{api.Msr, api.SysCnt} ||
			a == access{api.Msr, api.SysIar} || a == access{api.Mrs, api.SysEoir} || a == access{api.Mrs, api.SysSgi}
	}
	if i.Op == api.Mrs || i.Op == api.Msr {
		return a != access{api.Mrs, api.SysNzcv} && a != access{api.Msr, api.SysNzcv} && a != access{api.Mrs, api.SysTpidr} &&
			a != access{api.Msr, api.SysTpidr} && a != access{api.Mrs, api.SysCnt}
	}
	return i.Op == api.Eret || i.Op == api.MsrMask || i.Op == api.IcIallu
}

func device(sys int) bool {
	for k, s := range allSys() {
		if s == sys {
			return k >= 11
		}
	}
	return false
}

func (m *model) access(w api.Want) api.Want {
	i := m.i
	w.Addr = *m.withSP(i.Rn)
	if i.Op == api.LdrReg || i.Op == api.StrReg {
		w.Addr += m.x(i.Rm) * (1 << i.Amount)
	} else {
		w.Addr += uint64(i.Imm)
	}
	if w.Addr&7 != 0 {
		iss := 0x21
		if w.Kind == api.WStore || w.Kind == api.WStoreEx {
			iss = 0x61
		}
		return api.Want{Kind: api.WTrap, Class: 0x24 + m.c.EL, Iss: iss, Addr: w.Addr}
	}
	return w
}

func (m *model) want() api.Want {
	i, line := m.i, m.x(m.i.Rd)/64*64
	if m.mayNot() {
		return api.Want{Kind: api.WTrap}
	}
	switch i.Op {
	case api.Undef:
		return api.Want{Kind: api.WTrap}
	case api.Ldr, api.LdrReg:
		return m.access(api.Want{Kind: api.WLoad})
	case api.Ldar:
		return m.access(api.Want{Kind: api.WLoad, Acq: 2 - i.Sub})
	case api.Ldxr:
		return m.access(api.Want{Kind: api.WLoadEx, Acq: 2 * i.Sub})
	case api.Str, api.StrReg, api.Stlr:
		return m.access(api.Want{Kind: api.WStore, Value: m.x(i.Rd), Rel: i.Op == api.Stlr})
	case api.Stxr:
		return m.access(api.Want{Kind: api.WStoreEx, Value: m.x(i.Rd), Rel: i.Sub == 1})
	case api.Clrex:
		return api.Want{Kind: api.WClear}
	case api.Dmb:
		return api.Want{Kind: api.WFence, Fence: []int{0, 13, 10, 15}[i.Imm], Dsb: i.Sub == 1}
	case api.Isb:
		return api.Want{Kind: api.WIsb}
	case api.IcIallu:
		return api.Want{Kind: api.WIcAll}
	case api.IcIvau:
		return api.Want{Kind: api.WIcLine, Addr: line}
	case api.DcCvau:
		return api.Want{Kind: api.WDcLine, Addr: line}
	case api.Svc:
		return api.Want{Kind: api.WTrap, Class: 0x15, Iss: i.Imm}
	case api.Brk:
		return api.Want{Kind: api.WTrap, Class: 0x3C, Iss: i.Imm}
	}
	switch {
	case i.Op == api.Mrs && device(i.Sys):
		return api.Want{Kind: api.WSysRead, Sys: i.Sys}
	case i.Op == api.Msr && device(i.Sys):
		return api.Want{Kind: api.WSysWrite, Sys: i.Sys, Value: m.x(i.Rd)}
	case i.Op == api.Hint && i.Imm == 2 && !m.c.Event:
		return api.Want{Kind: api.WWait, Value: 2}
	case i.Op == api.Hint && i.Imm == 3:
		return api.Want{Kind: api.WWait, Value: 1}
	case i.Op == api.Hint && i.Imm == 4:
		return api.Want{Kind: api.WSend}
	}
	return api.Want{}
}

func signed(v uint64) *big.Int { return big.NewInt(int64(v)) }

func unsigned(v uint64) *big.Int { return new(big.Int).SetUint64(v) }

// low is a number without an end, modulo 2^64.
func low(n *big.Int) uint64 {
	return new(big.Int).And(n, unsigned(^uint64(0))).Uint64()
}

// sum adds, or takes away, without an end; a difference has a carry where nothing is borrowed.
func (m *model) sum(a, b uint64) uint64 {
	plain, withSigns := new(big.Int), new(big.Int)
	carry := false
	if m.i.Minus {
		plain.Sub(unsigned(a), unsigned(b))
		withSigns.Sub(signed(a), signed(b))
		carry = plain.Sign() >= 0
	} else {
		plain.Add(unsigned(a), unsigned(b))
		withSigns.Add(signed(a), signed(b))
		carry = plain.BitLen() > 64
	}
	out := low(plain)
	if m.i.Flags {
		m.c.N, m.c.Z, m.c.C, m.c.V = out>>63 == 1, out == 0, carry, withSigns.Cmp(signed(out)) != 0
	}
	return out
}

func (m *model) logic(a, b uint64) uint64 {
	if m.i.Not {
		b ^= 1<<64 - 1
	}
	out := []uint64{a & b, a | b, a ^ b}[m.i.Sub]
	if m.i.Flags {
		m.c.N, m.c.Z, m.c.C, m.c.V = out>>63 == 1, out == 0, false, false
	}
	return out
}

func shift(v uint64, kind, by int) uint64 {
	return []uint64{v << by, v >> by, uint64(int64(v) >> by), v>>by | v<<(64-by)}[kind]
}

// field moves bit by bit.
func field(v uint64, withSign bool, immr, imms int) uint64 {
	from, to, many := immr, 0, imms-immr+1
	if imms < immr {
		from, to, many = 0, 64-immr, imms+1
	}
	out, last := uint64(0), uint64(0)
	for k := range 64 {
		switch {
		case k >= to && k < to+many:
			last = v >> (from + k - to) & 1
			out |= last << k
		case k >= to+many && withSign:
			out |= last << k
		}
	}
	return out
}

func (m *model) holds() bool {
	c := m.c
	return []bool{
		c.Z, !c.Z, c.C, !c.C, c.N, !c.N, c.V, !c.V, c.C && !c.Z, !c.C || c.Z,
		c.N == c.V, c.N != c.V, !c.Z && c.N == c.V, c.Z || c.N != c.V, true, true,
	}[m.i.Cond]
}

func (m *model) reckon() {
	i, a, b := m.i, m.x(m.i.Rn), m.x(m.i.Rm)
	switch i.Op {
	case api.AddImm, api.LogImm:
		var out uint64
		if i.Op == api.AddImm {
			out = m.sum(*m.withSP(i.Rn), uint64(i.Imm)*(1<<i.Amount))
		} else {
			mask, _ := bits.Mask(i.Amount, i.Imm, i.Imm2)
			out = m.logic(a, mask)
		}
		if i.Rd == 31 && i.Flags {
			return
		}
		*m.withSP(i.Rd) = out
	case api.AddReg:
		m.put(i.Rd, m.sum(a, shift(b, i.Shift, i.Amount)))
	case api.LogReg:
		m.put(i.Rd, m.logic(a, shift(b, i.Shift, i.Amount)))
	case api.MovWide:
		part, old := uint64(i.Imm)<<i.Amount, m.x(i.Rd)
		hole := uint64(0xFFFF) << i.Amount
		m.put(i.Rd, map[int]uint64{0: part ^ (1<<64 - 1), 2: part, 3: (old | hole) - hole + part}[i.Sub])
	case api.Bitfield:
		m.put(i.Rd, field(a, i.Sub == 0, i.Imm, i.Imm2))
	case api.ShiftReg:
		m.put(i.Rd, shift(a, i.Sub, int(b&63)))
	case api.Mul:
		product := new(big.Int).Mul(unsigned(a), unsigned(b))
		if i.Minus {
			product.Neg(product)
		}
		m.put(i.Rd, low(product.Add(product, unsigned(m.x(i.Ra)))))
	case api.Div:
		out := new(big.Int)
		if b != 0 && i.Sub == 0 {
			out.Quo(unsigned(a), unsigned(b))
		} else if b != 0 {
			out.Quo(signed(a), signed(b))
		}
		m.put(i.Rd, low(out))
	case api.Sel:
		out := []uint64{b, b + 1, b ^ (1<<64 - 1), 0 - b}[i.Sub]
		if m.holds() {
			out = a
		}
		m.put(i.Rd, out)
	}
}

func (m *model) flow(at uint64) {
	i := m.i
	x := m.x(i.Rd)
	switch i.Op {
	case api.Adr:
		if i.Sub == 1 {
			at = at / 4096 * 4096
		}
		m.put(i.Rd, at+uint64(i.Imm))
	case api.B:
		if i.Link {
			m.c.X[30] = at + 4
		}
		m.c.PC = at + uint64(i.Imm)
	case api.BCond, api.Cbz, api.Tbz:
		taken := map[int]bool{api.BCond: m.holds(), api.Cbz: (x == 0) != i.Not, api.Tbz: (x>>i.Amount%2 == 0) != i.Not}[i.Op]
		if taken {
			m.c.PC = at + uint64(i.Imm)
		}
	case api.Br:
		m.c.PC = m.x(i.Rn)
		if i.Sub == 1 {
			m.c.X[30] = at + 4
		}
	}
}

func (m *model) system() {
	i, x := m.i, m.x(m.i.Rd)
	c := &m.c
	switch i.Op {
	case api.Ldr, api.LdrReg, api.Ldar, api.Ldxr:
		m.put(i.Rd, m.got.Value)
	case api.Stxr:
		m.put(i.Rm, map[bool]uint64{true: 0, false: 1}[m.got.Ok])
	case api.Mrs:
		flags, mask := uint64(0), uint64(0)
		for k, on := range []bool{c.V, c.C, c.Z, c.N} {
			if on {
				flags |= 1 << (28 + k)
			}
		}
		if c.Mask {
			mask = 0x80
		}
		own := map[int]uint64{
			api.SysVbar: c.Vbar, api.SysElr: c.Elr, api.SysSpsr: c.Spsr, api.SysEsr: c.Esr, api.SysFar: c.Far, api.SysSp0: c.SP[0],
			api.SysMpidr: 1<<31 + uint64(c.Id), api.SysEl: uint64(c.EL) * 4, api.SysDaif: mask, api.SysNzcv: flags, api.SysTpidr: c.Tpidr,
		}
		if device(i.Sys) {
			m.put(i.Rd, m.got.Value)
		} else {
			m.put(i.Rd, own[i.Sys])
		}
	case api.Msr:
		m.set(i.Sys, x)
	case api.MsrMask:
		if i.Imm/2%2 == 1 {
			c.Mask = i.Sub == 0
		}
	case api.Hint:
		switch {
		case i.Imm == 2 && c.Event:
			c.Event = false
		case i.Imm == 2:
			c.Wait = 2
		case i.Imm == 3:
			c.Wait = 1
		case i.Imm > 3:
			c.Event = true
		}
	}
}

func (m *model) set(sys int, x uint64) {
	c := &m.c
	switch sys {
	case api.SysVbar:
		c.Vbar = x / 2048 * 2048
	case api.SysElr:
		c.Elr = x
	case api.SysSpsr:
		c.Spsr = x
	case api.SysEsr:
		c.Esr = x % (1 << 32)
	case api.SysFar:
		c.Far = x
	case api.SysSp0:
		c.SP[0] = x
	case api.SysTpidr:
		c.Tpidr = x
	case api.SysDaif:
		c.Mask = x/128%2 == 1
	case api.SysNzcv:
		c.N, c.Z, c.C, c.V = x>>31%2 == 1, x>>30%2 == 1, x>>29%2 == 1, x>>28%2 == 1
	}
}

// end is the state behind it.
func (m *model) end() api.Core {
	w := m.want()
	isStore := w.Kind == api.WStore || w.Kind == api.WStoreEx
	switch {
	case w.Kind == api.WTrap:
		return entered(m.c, w.Class, w.Iss, w.Addr)
	case m.got.Fault != 0 && isStore:
		return entered(m.c, 0x24+m.c.EL, 0x50, w.Addr)
	case m.got.Fault != 0 && (w.Kind == api.WLoad || w.Kind == api.WLoadEx):
		return entered(m.c, 0x24+m.c.EL, 0x10, w.Addr)
	case m.got.Fault != 0 && (w.Kind == api.WSysRead || w.Kind == api.WSysWrite):
		return entered(m.c, 0, 0, 0)
	case m.i.Op == api.Eret:
		return gone(m.c)
	}
	at := m.c.PC
	m.c.PC += 4
	m.reckon()
	m.flow(at)
	m.system()
	return m.c
}

// spsrOf is what SPSR has of a state, as chapter 7 tells it.
func spsrOf(c api.Core) uint64 {
	parts := []struct {
		on    bool
		value uint64
	}{{c.N, 0x80000000}, {c.Z, 0x40000000}, {c.C, 0x20000000}, {c.V, 0x10000000}, {c.Mask, 0x80}, {c.EL == 1, 5}}
	sum := uint64(0)
	for _, p := range parts {
		if p.on {
			sum += p.value
		}
	}
	return sum
}

// entered is the state behind an exception, as chapter 7 tells it.
func entered(c api.Core, class, iss int, far uint64) api.Core {
	d := c
	d.Spsr, d.Elr, d.Esr = spsrOf(c), c.PC, uint64(class<<26+1<<25+iss)
	d.EL, d.Mask, d.Wait = 1, true, 0
	d.PC = c.Vbar + []uint64{0x400, 0x200}[c.EL]
	switch class {
	case api.EcSvc:
		d.Elr += 4
	case api.EcData, api.EcData + 1: // of the classes with an address those that an instruction has
		d.Far = far
	}
	return d
}

// gone is the state behind Eret, as chapter 7 tells it.
func gone(c api.Core) api.Core {
	s := c.Spsr
	c.PC, c.Event = c.Elr, true
	if low := s % 0x10000000; s >= 1<<32 || low != 0 && low != 5 && low != 0x80 && low != 0x85 {
		return c
	}
	c.N, c.Z, c.C, c.V = s>>31%2 == 1, s>>30%2 == 1, s>>29%2 == 1, s>>28%2 == 1
	c.Mask, c.EL = s>>7%2 == 1, int(s%2)
	return c
}

// P6.2, P6.3: what instructions of each Op want, and what they do, in states of all sorts, with all sorts of answers.
func TestModel(t *testing.T) {
	r := rand.New(rand.NewSource(66))
	for _, i := range samples(t, 600) {
		word := wordOf(t, i)
		for range 8 {
			c, got := anyCore(r), anyGot(r)
			m := model{i, c, got}
			if w, want := begin(t, c, word), m.want(); w != want {
				t.Fatalf("Begin of %+v:\n%+v, not\n%+v", i, w, want)
			}
			want := m.end()
			if d := end(t, c, word, got); d != want {
				t.Fatalf("End of %+v, %+v, of\n%+v:\n%+v, not\n%+v", i, got, c, d, want)
			}
		}
	}
}

// P6.2, P6.3: any words, most of which are no instruction.
func TestModelWords(t *testing.T) {
	r := rand.New(rand.NewSource(666))
	for range 200000 {
		word, c, got := r.Uint32(), anyCore(r), anyGot(r)
		m := model{code.Decode(word), c, got}
		if w, want := begin(t, c, word), m.want(); w != want {
			t.Fatalf("Begin of %08x:\n%+v, not\n%+v", word, w, want)
		}
		same(t, "End", end(t, c, word, got), m.end())
	}
}
