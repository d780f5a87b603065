package lift_test

import (
	"math"
	"math/rand"
	"testing"

	"understudy/api"
	"understudy/code"
	"understudy/insn"
)

const nop = 0xD503201F

func allSys() []int {
	return []int{
		api.SysVbar, api.SysElr, api.SysSpsr, api.SysEsr, api.SysFar, api.SysSp0, api.SysMpidr, api.SysEl, api.SysDaif,
		api.SysNzcv, api.SysTpidr, api.SysIar, api.SysEoir, api.SysPmr, api.SysSgi, api.SysCnt, api.SysCtl, api.SysCval,
	}
}

// odd are numbers that are no level, some of which look like one in their lowest bits.
func odd() []int {
	return []int{-1, -2, 2, 3, 4, 64, 1 << 8, 1<<8 + 1, 1<<16 + 1, 1 << 31, 1 << 32, 1<<32 + 1, 1 << 62, -1 << 32, -1<<32 + 1, math.MaxInt, math.MinInt, math.MinInt + 1}
}

func wordOf(t *testing.T, i api.Insn) uint32 {
	t.Helper()
	word, err := code.Encode(i)
	if err != api.OK {
		t.Fatalf("%+v: %v", i, err)
	}
	return word
}

func wordsOf(t *testing.T, those ...api.Insn) []uint32 {
	t.Helper()
	var out []uint32
	for _, i := range those {
		out = append(out, wordOf(t, i))
	}
	return out
}

// pick is a number of a field: an edge of some Op's, or any small one.
func pick(r *rand.Rand) int {
	edges := []int{0, 1, 2, 3, 4, 5, 8, 12, 15, 16, 31, 32, 48, 62, 63, 4095, 65535, 32760,
		-4, 1<<15 - 4, -1 << 15, 1<<20 - 4, -1 << 20, 1<<20 - 1, 1<<27 - 4, -1 << 27, 4096, -4096, 1<<32 - 4096, -1 << 32}
	if r.Intn(2) == 0 {
		return edges[r.Intn(len(edges))]
	}
	return 4 * (r.Intn(2048) - 1024)
}

// fieldsOf are the fields of an Op, a letter each, as likely has them.
func fieldsOf(op int) string {
	return [...]string{
		api.AddImm: "dniAf-", api.AddReg: "dnmhAf-", api.LogReg: "dnmsfthA", api.LogImm: "dnsfAi2", api.MovWide: "dsiA", api.Bitfield: "dnsi2",
		api.ShiftReg: "dnms", api.Mul: "dnma-", api.Div: "dnms", api.Sel: "dnmsc", api.Adr: "dsi", api.B: "il", api.BCond: "ci",
		api.Cbz: "dti", api.Tbz: "dtAi", api.Br: "ns", api.Ldr: "dni", api.Str: "dni", api.LdrReg: "dnmA", api.StrReg: "dnmA",
		api.Ldar: "dns", api.Stlr: "dn", api.Ldxr: "dns", api.Stxr: "dnms", api.Dmb: "si", api.IcIvau: "d", api.DcCvau: "d",
		api.Mrs: "dy", api.Msr: "dy", api.MsrMask: "si", api.Svc: "i", api.Brk: "i", api.Hint: "i",
	}[op]
}

// likely fills the fields that an Op has; what it makes is right often enough.
func likely(r *rand.Rand, op int) api.Insn {
	register := func() int { return []int{r.Intn(32), r.Intn(4), 30, 31}[r.Intn(4)] }
	flip := func() bool { return r.Intn(2) == 0 }
	i := api.Insn{Op: op}
	for _, field := range fieldsOf(op) {
		if r.Intn(8) == 0 { // now and then one stays 0
			continue
		}
		switch field {
		case 's':
			i.Sub = r.Intn(4)
		case 'd':
			i.Rd = register()
		case 'n':
			i.Rn = register()
		case 'm':
			i.Rm = register()
		case 'a':
			i.Ra = register()
		case 'i':
			i.Imm = pick(r)
		case '2':
			i.Imm2 = r.Intn(64)
		case 'A':
			i.Amount = []int{3, 12, 16, 32, 48, r.Intn(64)}[r.Intn(6)]
		case 'h':
			i.Shift = r.Intn(4)
		case 'c':
			i.Cond = r.Intn(16)
		case 'y':
			i.Sys = allSys()[r.Intn(len(allSys()))]
		case 'f':
			i.Flags = flip()
		case '-':
			i.Minus = flip()
		case 't':
			i.Not = flip()
		case 'l':
			i.Link = flip()
		}
	}
	return i
}

// right is an instruction of an Op.
func right(r *rand.Rand, op int) api.Insn {
	for range 100000 {
		if i := likely(r, op); insn.Right(i) {
			return i
		}
	}
	panic("no instruction of an Op")
}

// samples are so many right instructions of each Op.
func samples(many int) []api.Insn {
	r := rand.New(rand.NewSource(17))
	var out []api.Insn
	for op := api.AddImm; op <= api.Hint; op++ {
		for range many {
			out = append(out, right(r, op))
		}
	}
	return out
}

// number is an edge, or any; most of them are multiples of 8.
func number(r *rand.Rand) uint64 {
	edges := []uint64{0, 1, 2, 63, 64, 65, 8, 16, 24, math.MaxInt64, 1 << 63, math.MaxUint64, math.MaxUint64 - 7, 0x5555555555555555}
	switch r.Intn(4) {
	case 0:
		return edges[r.Intn(len(edges))]
	case 1:
		return r.Uint64() >> r.Intn(64)
	}
	return r.Uint64() &^ 7
}

// anyCore is a right state of a level, at a place.
func anyCore(r *rand.Rand, el int, pc uint64) api.Core {
	flag := func() bool { return r.Intn(2) == 0 }
	c := api.Core{
		SP: [2]uint64{number(r), number(r)}, PC: pc, N: flag(), Z: flag(), C: flag(), V: flag(), EL: el, Mask: flag(),
		Spsr: number(r), Elr: number(r), Esr: number(r), Far: number(r), Vbar: number(r), Tpidr: number(r),
		Id: r.Intn(8), Wait: r.Intn(3), Event: flag(),
	}
	for k := range c.X {
		c.X[k] = number(r)
	}
	if flag() { // two numbers that are the same
		c.X[r.Intn(31)] = c.X[r.Intn(31)]
	}
	return c
}

// anyPC is an address of an instruction, now and then one ahead of the end of all addresses.
func anyPC(r *rand.Rand) uint64 {
	if r.Intn(4) == 0 {
		return -(4 * uint64(r.Intn(20)))
	}
	return r.Uint64() >> r.Intn(64) &^ 3
}

// anyGots are what comes of as many things that are wanted: seldom a fault.
func anyGots(r *rand.Rand, many int) []api.Got {
	out := make([]api.Got, many)
	for k := range out {
		out[k] = api.Got{Value: number(r), Ok: r.Intn(2) == 0}
		if r.Intn(20) == 0 {
			out[k].Fault = []int{api.Outside, api.Denied, -1, 1 << 32}[r.Intn(4)]
		}
	}
	return out
}
