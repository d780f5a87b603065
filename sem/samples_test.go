package sem_test

import (
	"math"
	"math/rand"
	"testing"

	"understudy/api"
	"understudy/insn"
)

func allSys() []int {
	return []int{
		api.SysVbar, api.SysElr, api.SysSpsr, api.SysEsr, api.SysFar, api.SysSp0, api.SysMpidr, api.SysEl, api.SysDaif,
		api.SysNzcv, api.SysTpidr, api.SysIar, api.SysEoir, api.SysPmr, api.SysSgi, api.SysCnt, api.SysCtl, api.SysCval,
	}
}

// pick is a number of a field: an edge of some Op's, or any small one.
func pick(r *rand.Rand) int {
	edges := []int{0, 1, 2, 3, 4, 8, 12, 15, 16, 31, 32, 48, 62, 63, 4095, 65535, 32760,
		-4, 1<<15 - 4, -1 << 15, 1<<20 - 4, -1 << 20, 1<<20 - 1, 1<<27 - 4, -1 << 27, 4096, -4096, 1<<32 - 4096, -1 << 32}
	if r.Intn(2) == 0 {
		return edges[r.Intn(len(edges))]
	}
	return 4 * (r.Intn(2048) - 1024)
}

// likely fills the fields that an Op has; what it makes is right often enough.
func likely(r *rand.Rand, op int) api.Insn {
	register := func() int { return []int{r.Intn(32), r.Intn(4), 30, 31}[r.Intn(4)] }
	i := api.Insn{Op: op}
	fields := []func(){
		func() { i.Sub = r.Intn(4) },
		func() { i.Rd = register() },
		func() { i.Rn = register() },
		func() { i.Rm = register() },
		func() { i.Ra = register() },
		func() { i.Imm = pick(r) },
		func() { i.Imm2 = r.Intn(64) },
		func() { i.Amount = []int{3, 12, 16, 32, 48, r.Intn(64)}[r.Intn(6)] },
		func() { i.Shift = r.Intn(4) },
		func() { i.Cond = r.Intn(16) },
		func() { i.Sys = allSys()[r.Intn(len(allSys()))] },
		func() { i.Flags = r.Intn(2) == 0 },
		func() { i.Minus = r.Intn(2) == 0 },
		func() { i.Not = r.Intn(2) == 0 },
		func() { i.Link = r.Intn(2) == 0 },
	}
	has := fieldsOf(op)
	for k, f := range fields {
		if has&(1<<k) != 0 && r.Intn(8) != 0 { // now and then one stays 0
			f()
		}
	}
	return i
}

// The fields of an instruction, in the order of likely.
const (
	fSub = 1 << iota
	fRd
	fRn
	fRm
	fRa
	fImm
	fImm2
	fAmount
	fShift
	fCond
	fSys
	fFlags
	fMinus
	fNot
	fLink
)

func fieldsOf(op int) int {
	return [...]int{
		api.AddImm: fRd | fRn | fImm | fAmount | fFlags | fMinus, api.AddReg: fRd | fRn | fRm | fShift | fAmount | fFlags | fMinus,
		api.LogReg: fRd | fRn | fRm | fSub | fFlags | fNot | fShift | fAmount, api.LogImm: fRd | fRn | fSub | fFlags | fAmount | fImm | fImm2,
		api.MovWide: fRd | fSub | fImm | fAmount, api.Bitfield: fRd | fRn | fSub | fImm | fImm2, api.ShiftReg: fRd | fRn | fRm | fSub,
		api.Mul: fRd | fRn | fRm | fRa | fMinus, api.Div: fRd | fRn | fRm | fSub, api.Sel: fRd | fRn | fRm | fSub | fCond,
		api.Adr: fRd | fSub | fImm, api.B: fImm | fLink, api.BCond: fCond | fImm, api.Cbz: fRd | fNot | fImm, api.Tbz: fRd | fNot | fAmount | fImm,
		api.Br: fRn | fSub, api.Ldr: fRd | fRn | fImm, api.Str: fRd | fRn | fImm, api.LdrReg: fRd | fRn | fRm | fAmount,
		api.StrReg: fRd | fRn | fRm | fAmount, api.Ldar: fRd | fRn | fSub, api.Stlr: fRd | fRn, api.Ldxr: fRd | fRn | fSub,
		api.Stxr: fRd | fRn | fRm | fSub, api.Dmb: fSub | fImm, api.IcIvau: fRd, api.DcCvau: fRd, api.Mrs: fRd | fSys, api.Msr: fRd | fSys,
		api.MsrMask: fSub | fImm, api.Svc: fImm, api.Brk: fImm, api.Hint: fImm,
	}[op]
}

// samples are so many right instructions of each Op.
func samples(t *testing.T, many int) []api.Insn {
	t.Helper()
	r := rand.New(rand.NewSource(6))
	var out []api.Insn
	for op := api.AddImm; op <= api.Hint; op++ {
		n := 0
		for range 1000 * many {
			if i := likely(r, op); insn.Right(i) {
				out = append(out, i)
				n++
			}
			if n == many {
				break
			}
		}
		if n < many {
			t.Fatalf("%d instructions of the Op %d alone", n, op)
		}
	}
	return out
}

// number is an edge, or any.
func number(r *rand.Rand) uint64 {
	edges := []uint64{0, 1, 2, 63, 64, 65, 8, 16, 24, math.MaxInt64, 1 << 63, math.MaxUint64, math.MaxUint64 - 7, 0x5555555555555555}
	switch r.Intn(3) {
	case 0:
		return edges[r.Intn(len(edges))]
	case 1:
		return r.Uint64() &^ 7
	}
	return r.Uint64() >> r.Intn(64)
}

// anyCore is a right state.
func anyCore(r *rand.Rand) api.Core {
	flag := func() bool { return r.Intn(2) == 0 }
	c := api.Core{
		SP: [2]uint64{number(r), number(r)}, PC: number(r) &^ 3, N: flag(), Z: flag(), C: flag(), V: flag(), EL: r.Intn(2), Mask: flag(),
		Spsr: number(r), Elr: number(r), Esr: number(r), Far: number(r), Vbar: number(r), Tpidr: number(r),
		Id: r.Intn(8), Wait: r.Intn(3), Event: flag(),
	}
	for k := range c.X {
		c.X[k] = number(r)
	}
	if flag() { // two numbers that are the same
		c.X[r.Intn(31)] = c.X[r.Intn(31)]
	}
	return c
}

func anyGot(r *rand.Rand) api.Got {
	return api.Got{Value: number(r), Ok: r.Intn(2) == 0, Fault: []int{0, 0, 0, 1, 2, -1}[r.Intn(6)]}
}
