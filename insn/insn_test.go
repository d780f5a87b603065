package insn_test

import (
	"math"
	"slices"
	"strings"
	"testing"

	"understudy/api"
	"understudy/bits"
	"understudy/insn"
)

// to is the multiples of step from low to high.
type to struct{ low, high, step int }

func (r to) has(n int) bool { return n >= r.low && n <= r.high && n%r.step == 0 }

func is(n int) to { return to{n, n, max(n, 1)} }

// row is one of the chapter's table; an Op whose fields hang on one another has several.
// Registers and signs are letters: d n m a; f (Flags), m (Minus), n (Not), l (Link).
type row struct {
	op               int
	registers, signs string
	numbers          map[string]to
}

func rows() []row {
	six, half, four := to{0, 63, 1}, to{0, 65535, 1}, to{0, 15, 1}
	near, far := to{-1 << 20, 1<<20 - 4, 4}, to{-1 << 27, 1<<27 - 4, 4}
	low := to{0, 1, 1}
	out := []row{
		{api.AddImm, "dn", "fm", map[string]to{"Imm": {0, 4095, 1}, "Amount": {0, 12, 12}}},
		{api.AddReg, "dnm", "fm", map[string]to{"Shift": {0, 2, 1}, "Amount": six}},
		{api.LogReg, "dnm", "fn", map[string]to{"Shift": {0, 3, 1}, "Amount": six}},
		{api.LogReg, "dnm", "n", map[string]to{"Sub": {1, 2, 1}, "Shift": {0, 3, 1}, "Amount": six}},
		{api.LogImm, "dn", "f", map[string]to{"Amount": low, "Imm": six, "Imm2": six}},
		{api.LogImm, "dn", "", map[string]to{"Sub": {1, 2, 1}, "Amount": low, "Imm": six, "Imm2": six}},
		{api.MovWide, "d", "", map[string]to{"Imm": half, "Amount": {0, 48, 16}}},
		{api.MovWide, "d", "", map[string]to{"Sub": {2, 3, 1}, "Imm": half, "Amount": {0, 48, 16}}},
		{api.Bitfield, "dn", "", map[string]to{"Imm": six, "Imm2": six}},
		{api.Bitfield, "dn", "", map[string]to{"Sub": is(2), "Imm": six, "Imm2": six}},
		{api.ShiftReg, "dnm", "", map[string]to{"Sub": {0, 3, 1}}},
		{api.Mul, "dnma", "m", nil},
		{api.Div, "dnm", "", map[string]to{"Sub": low}},
		{api.Sel, "dnm", "", map[string]to{"Sub": {0, 3, 1}, "Cond": four}},
		{api.Adr, "d", "", map[string]to{"Imm": {-1 << 20, 1<<20 - 1, 1}}},
		{api.Adr, "d", "", map[string]to{"Sub": is(1), "Imm": {-1 << 32, 1<<32 - 4096, 4096}}},
		{api.B, "", "l", map[string]to{"Imm": far}},
		{api.BCond, "", "", map[string]to{"Cond": four, "Imm": near}},
		{api.Cbz, "d", "n", map[string]to{"Imm": near}},
		{api.Tbz, "d", "n", map[string]to{"Amount": six, "Imm": {-1 << 15, 1<<15 - 4, 4}}},
		{api.Br, "n", "", map[string]to{"Sub": {0, 2, 1}}},
		{api.Ldr, "dn", "", map[string]to{"Imm": {0, 32760, 8}}},
		{api.Str, "dn", "", map[string]to{"Imm": {0, 32760, 8}}},
		{api.LdrReg, "dnm", "", map[string]to{"Amount": {0, 3, 3}}},
		{api.StrReg, "dnm", "", map[string]to{"Amount": {0, 3, 3}}},
		{api.Ldar, "dn", "", map[string]to{"Sub": low}},
		{api.Stlr, "dn", "", nil},
		{api.Ldxr, "dn", "", map[string]to{"Sub": low}},
		{api.Stxr, "dnm", "", map[string]to{"Sub": low}},
		{api.Clrex, "", "", nil},
		{api.Dmb, "", "", map[string]to{"Sub": low, "Imm": {1, 3, 1}}},
		{api.Isb, "", "", nil},
		{api.IcIvau, "d", "", nil},
		{api.IcIallu, "", "", nil},
		{api.DcCvau, "d", "", nil},
		{api.MsrMask, "", "", map[string]to{"Sub": low, "Imm": four}},
		{api.Svc, "", "", map[string]to{"Imm": half}},
		{api.Brk, "", "", map[string]to{"Imm": half}},
		{api.Eret, "", "", nil},
		{api.Hint, "", "", map[string]to{"Imm": {0, 5, 1}}},
	}
	for _, sys := range systems() {
		out = append(out, row{api.Mrs, "d", "", map[string]to{"Sys": is(sys)}}, row{api.Msr, "d", "", map[string]to{"Sys": is(sys)}})
	}
	return out
}

func systems() []int {
	return []int{
		api.SysVbar, api.SysElr, api.SysSpsr, api.SysEsr, api.SysFar, api.SysSp0, api.SysMpidr, api.SysEl, api.SysDaif,
		api.SysNzcv, api.SysTpidr, api.SysIar, api.SysEoir, api.SysPmr, api.SysSgi, api.SysCnt, api.SysCtl, api.SysCval,
	}
}

// names are all fields that are numbers, but the Op; field is the one of them at a place.
var names = [11]string{"Rd", "Rn", "Rm", "Ra", "Sub", "Imm", "Imm2", "Amount", "Shift", "Cond", "Sys"}

func field(i *api.Insn, at int) *int {
	return [11]*int{&i.Rd, &i.Rn, &i.Rm, &i.Ra, &i.Sub, &i.Imm, &i.Imm2, &i.Amount, &i.Shift, &i.Cond, &i.Sys}[at]
}

// signs are all fields that are true or false, by their letters.
const signs = "fmnl"

func sign(i *api.Insn, letter rune) *bool {
	return [4]*bool{&i.Flags, &i.Minus, &i.Not, &i.Link}[strings.IndexRune(signs, letter)]
}

// room is what the row leaves to a field.
func (r row) room(name string) to {
	if name[0] == 'R' && strings.Contains(r.registers, name[1:]) {
		return to{0, 31, 1}
	}
	if s, ok := r.numbers[name]; ok {
		return s
	}
	return is(0)
}

func (r row) fits(i api.Insn) bool {
	if i.Op != r.op {
		return false
	}
	for at, name := range names {
		if !r.room(name).has(*field(&i, at)) {
			return false
		}
	}
	for _, c := range signs {
		if *sign(&i, c) && !strings.ContainsRune(r.signs, c) {
			return false
		}
	}
	if i.Op == api.LogImm {
		_, e := bits.Mask(i.Amount, i.Imm, i.Imm2)
		return e == api.OK
	}
	return true
}

func model(all []row, i api.Insn) bool {
	return slices.ContainsFunc(all, func(r row) bool { return r.fits(i) })
}

// some are the ends of a field's room, and some within.
func (r row) some(name string) []int {
	s := r.room(name)
	if name[0] == 'R' && s.high > 0 {
		return []int{0, 7, 30, 31}
	}
	if s.high-s.low <= 5*s.step {
		var out []int
		for n := s.low; n <= s.high; n += s.step {
			out = append(out, n)
		}
		return out
	}
	middle := (s.low/2 + s.high/3) / s.step * s.step
	out := []int{s.low, s.low + s.step, middle, s.high - s.step, s.high}
	if s.low < 0 {
		out = append(out, -s.step, 0, s.step)
	}
	slices.Sort(out)
	return slices.Compact(out)
}

// samples are right instructions: each of some values of a field with each of the others', but for the
// mask's three, of which no more than a few have one.
func samples() []api.Insn {
	var out []api.Insn
	for _, r := range rows() {
		list := []api.Insn{{Op: r.op}}
		for at, name := range names {
			var next []api.Insn
			for _, i := range list {
				for _, n := range r.some(name) {
					*field(&i, at) = n
					next = append(next, i)
				}
			}
			list = next
		}
		for _, c := range r.signs {
			n := len(list)
			for k := range n {
				i := list[k]
				*sign(&i, c) = true
				list = append(list, i)
			}
		}
		for _, i := range list {
			if r.fits(i) {
				out = append(out, i)
			}
		}
	}
	return out
}

// thin is one of so many, and the first ones of each Op and Sub.
func thin(list []api.Insn, every int) []api.Insn {
	var out []api.Insn
	many := map[[2]int]int{}
	for _, i := range list {
		kind := [2]int{i.Op, i.Sub}
		many[kind]++
		if many[kind] < 12 || many[kind]%every == 0 {
			out = append(out, i)
		}
	}
	return out
}

// values are what a field is set to, to see whether it is refused: every edge of every row, and beyond it.
func values() []int {
	out := []int{math.MinInt, math.MinInt + 1, math.MaxInt, math.MaxInt - 3, 1 << 33, -1 << 33, 1<<32 + 1, 1<<63 - 4096, -1 << 62}
	for n := -9; n <= 80; n++ {
		out = append(out, n)
	}
	for _, n := range []int{4095, 4096, 8192, 32760, 32768, 65535, 65536, 1 << 15, 1 << 20, 1 << 21, 1 << 27, 1 << 28, 1 << 32} {
		for _, d := range []int{0, 1, 2, 3, 4, 7, 8, 9, 4095, 4096, 4097} {
			out = append(out, n-d, n+d, -n-d, -n+d)
		}
	}
	for _, sys := range systems() {
		out = append(out, sys-1, sys, sys+1, sys|1<<15, -sys)
	}
	slices.Sort(out)
	return slices.Compact(out)
}

// nothing: of what is not right each call tells nothing.
func nothing(i api.Insn) bool {
	s, e := insn.Text(i)
	reads, writes := insn.Flags(i)
	return !insn.Right(i) && s == "" && e == api.ErrInsn && !reads && !writes && !insn.Ends(i) &&
		len(insn.Reads(i)) == 0 && len(insn.Address(i)) == 0 && len(insn.Writes(i)) == 0
}

// P2.1: all that the table names is right.
func TestRightSamples(t *testing.T) {
	seen := map[int]int{}
	for _, i := range samples() {
		seen[i.Op]++
		if !insn.Right(i) {
			t.Fatalf("not right: %+v", i)
		}
	}
	for op := api.AddImm; op <= api.Hint; op++ {
		if seen[op] == 0 {
			t.Error("no sample of the Op", op)
		}
	}
}

// P2.1, P2.2: one field is another; where that is not right every call tells nothing.
func TestRightOneField(t *testing.T) {
	all, pool := rows(), values()
	for _, i := range thin(samples(), 9973) {
		of := slices.DeleteFunc(slices.Clone(all), func(r row) bool { return r.op != i.Op })
		for at := range names {
			for _, n := range pool {
				j := i
				*field(&j, at) = n
				check(t, of, j)
			}
		}
		for _, c := range signs {
			j := i
			p := sign(&j, c)
			*p = !*p
			check(t, of, j)
		}
	}
}

func check(t *testing.T, all []row, i api.Insn) {
	t.Helper()
	if want := model(all, i); insn.Right(i) != want {
		t.Fatalf("Right(%+v) is not %v", i, want)
	} else if !want && !nothing(i) {
		t.Fatalf("not right, but something is told: %+v", i)
	}
}

// P2.1: the Op is one of the table's.
func TestRightOps(t *testing.T) {
	all := rows()
	for _, op := range []int{math.MinInt, -37, -1, api.Undef, 38, 39, 64, 1<<32 + 1, math.MaxInt} {
		for _, i := range []api.Insn{{}, {Imm: 1}, {Rd: 1, Rn: 2, Rm: 3}, {Sys: api.SysNzcv}} {
			i.Op = op
			if !nothing(i) {
				t.Errorf("an instruction of the Op %d: %+v", op, i)
			}
		}
	}
	for op := range 40 {
		check(t, all, api.Insn{Op: op})
		check(t, all, api.Insn{Op: op, Imm: 1})
	}
}

// P2.1: what the table says in words, each edge both ways.
func TestRightEdges(t *testing.T) {
	right := []api.Insn{
		{Op: api.AddImm, Rd: 31, Rn: 31, Imm: 4095, Amount: 12, Flags: true, Minus: true},
		{Op: api.AddReg, Rd: 31, Rn: 31, Rm: 31, Shift: 2, Amount: 63, Flags: true, Minus: true},
		{Op: api.LogReg, Rd: 31, Rn: 31, Rm: 31, Flags: true, Not: true, Shift: 3, Amount: 63},
		{Op: api.LogReg, Sub: 2, Not: true},
		{Op: api.LogImm, Flags: true, Amount: 1, Imm: 63, Imm2: 62},
		{Op: api.LogImm, Sub: 2, Imm: 63, Imm2: 60},
		{Op: api.MovWide, Sub: 3, Imm: 65535, Amount: 48},
		{Op: api.Bitfield, Sub: 2, Imm: 63, Imm2: 63},
		{Op: api.Mul, Ra: 31, Minus: true},
		{Op: api.Adr, Imm: -1 << 20}, {Op: api.Adr, Imm: 1<<20 - 1},
		{Op: api.Adr, Sub: 1, Imm: -1 << 32}, {Op: api.Adr, Sub: 1, Imm: 1<<32 - 4096},
		{Op: api.B, Imm: -1 << 27}, {Op: api.B, Imm: 1<<27 - 4, Link: true},
		{Op: api.BCond, Cond: 15, Imm: -1 << 20}, {Op: api.Cbz, Rd: 31, Not: true, Imm: 1<<20 - 4},
		{Op: api.Tbz, Amount: 63, Imm: -1 << 15}, {Op: api.Tbz, Imm: 1<<15 - 4},
		{Op: api.Br, Rn: 31, Sub: 2}, {Op: api.Ldr, Imm: 32760}, {Op: api.StrReg, Amount: 3},
		{Op: api.Dmb, Sub: 1, Imm: 1}, {Op: api.MsrMask, Sub: 1, Imm: 15}, {Op: api.Hint, Imm: 5},
		{Op: api.Svc, Imm: 65535}, {Op: api.Brk, Imm: 65535}, {Op: api.Msr, Sys: 0x5F1A}, {Op: api.Mrs, Rd: 31, Sys: 0x465D},
	}
	wrong := []api.Insn{
		{Op: api.AddImm, Amount: 1}, {Op: api.AddImm, Amount: 24}, {Op: api.AddImm, Imm: -1}, {Op: api.AddImm, Not: true},
		{Op: api.AddReg, Shift: 3}, {Op: api.AddReg, Amount: 64}, {Op: api.AddReg, Sub: 1}, {Op: api.AddReg, Imm: 1},
		{Op: api.LogReg, Sub: 3}, {Op: api.LogReg, Sub: 2, Flags: true}, {Op: api.LogReg, Shift: 4}, {Op: api.LogReg, Minus: true},
		{Op: api.LogImm, Sub: 1, Flags: true, Amount: 1}, {Op: api.LogImm, Amount: 2}, {Op: api.LogImm, Imm2: 63},
		{Op: api.LogImm, Imm2: 61}, {Op: api.LogImm, Not: true}, {Op: api.LogImm, Imm: 64}, {Op: api.LogImm, Imm2: 64},
		{Op: api.MovWide, Sub: 4}, {Op: api.MovWide, Sub: 1, Imm: 1}, {Op: api.MovWide, Amount: 64}, {Op: api.MovWide, Amount: 8},
		{Op: api.Bitfield, Sub: 1}, {Op: api.Bitfield, Sub: 3}, {Op: api.Bitfield, Imm2: 64}, {Op: api.ShiftReg, Sub: 4},
		{Op: api.Mul, Sub: 1}, {Op: api.Div, Sub: 2}, {Op: api.Sel, Cond: 16}, {Op: api.Sel, Cond: -1},
		{Op: api.Adr, Imm: 1 << 20}, {Op: api.Adr, Imm: -1<<20 - 1}, {Op: api.Adr, Sub: 1, Imm: 4095},
		{Op: api.Adr, Sub: 1, Imm: 1 << 32}, {Op: api.Adr, Sub: 1, Imm: -1<<32 - 4096}, {Op: api.Adr, Sub: 2},
		{Op: api.B, Imm: 1 << 27}, {Op: api.B, Imm: -1<<27 - 4}, {Op: api.B, Imm: -2}, {Op: api.B, Cond: 1},
		{Op: api.BCond, Imm: 1 << 20}, {Op: api.BCond, Link: true}, {Op: api.Cbz, Imm: 1}, {Op: api.Cbz, Rn: 1},
		{Op: api.Tbz, Imm: 1 << 15}, {Op: api.Tbz, Imm: -1<<15 - 4}, {Op: api.Tbz, Amount: 64}, {Op: api.Br, Sub: 3}, {Op: api.Br, Rd: 1},
		{Op: api.Ldr, Imm: -8}, {Op: api.Str, Imm: 32768}, {Op: api.Str, Imm: 12}, {Op: api.LdrReg, Amount: 1}, {Op: api.LdrReg, Imm: 8},
		{Op: api.Ldar, Sub: 2}, {Op: api.Stlr, Sub: 1}, {Op: api.Stlr, Rm: 1}, {Op: api.Ldxr, Rm: 1}, {Op: api.Stxr, Ra: 1},
		{Op: api.Clrex, Imm: 15}, {Op: api.Isb, Imm: 15}, {Op: api.IcIallu, Rd: 31}, {Op: api.Eret, Rn: 31},
		{Op: api.Dmb, Imm: 4}, {Op: api.Dmb, Sub: 2, Imm: 3}, {Op: api.IcIvau, Rd: 32}, {Op: api.DcCvau, Rd: -1},
		{Op: api.Mrs}, {Op: api.Msr, Sys: 0x4601}, {Op: api.Ldr, Sys: api.SysVbar}, {Op: api.MsrMask, Imm: 16}, {Op: api.MsrMask, Sub: 2},
		{Op: api.Svc, Imm: 65536}, {Op: api.Brk, Imm: -1}, {Op: api.Hint, Imm: -1},
	}
	for _, i := range right {
		if !insn.Right(i) {
			t.Errorf("not right: %+v", i)
		}
	}
	for _, i := range wrong {
		if !nothing(i) {
			t.Errorf("something is told of %+v", i)
		}
	}
}

// use is which fields' registers an Op reads, has its address of, writes: a great letter has the stack pointer.
type use struct{ reads, address, writes string }

func useOf(i api.Insn) use {
	switch i.Op {
	case api.AddImm:
		return use{"N", "", pick(i.Flags, "d", "D")}
	case api.AddReg, api.LogReg, api.ShiftReg, api.Div, api.Sel:
		return use{"nm", "", "d"}
	case api.LogImm:
		return use{"n", "", pick(i.Flags, "d", "D")}
	case api.MovWide:
		return use{pick(i.Sub == 3, "d", ""), "", "d"}
	case api.Bitfield:
		return use{"n", "", "d"}
	case api.Mul:
		return use{"nma", "", "d"}
	case api.Adr, api.Mrs:
		return use{"", "", "d"}
	case api.B:
		return use{"", "", pick(i.Link, "k", "")}
	case api.Cbz, api.Tbz, api.Msr:
		return use{"d", "", ""}
	case api.Br:
		return use{"n", "", pick(i.Sub == 1, "k", "")}
	case api.Ldr, api.Ldar, api.Ldxr:
		return use{"N", "N", "d"}
	case api.Str, api.Stlr:
		return use{"dN", "N", ""}
	case api.LdrReg:
		return use{"Nm", "Nm", "d"}
	case api.StrReg:
		return use{"dNm", "Nm", ""}
	case api.Stxr:
		return use{"dN", "N", "m"}
	case api.IcIvau, api.DcCvau:
		return use{"d", "d", ""}
	}
	return use{}
}

func pick(is bool, yes, no string) string {
	if is {
		return yes
	}
	return no
}

func registers(i api.Insn, letters string) []int {
	var out []int
	at := map[rune]int{'d': i.Rd, 'n': i.Rn, 'm': i.Rm, 'a': i.Ra, 'D': i.Rd, 'N': i.Rn, 'k': 30}
	for _, c := range letters {
		if n := at[c]; n != 31 || c < 'a' {
			out = append(out, n)
		}
	}
	slices.Sort(out)
	return slices.Compact(out)
}

// P2.2: what is read, for the address, written: of all samples.
func TestRegisters(t *testing.T) {
	for _, i := range samples() {
		u := useOf(i)
		if got, want := insn.Reads(i), registers(i, u.reads); !slices.Equal(got, want) {
			t.Fatalf("Reads(%+v): %v, not %v", i, got, want)
		}
		if got, want := insn.Address(i), registers(i, u.address); !slices.Equal(got, want) {
			t.Fatalf("Address(%+v): %v, not %v", i, got, want)
		}
		if got, want := insn.Writes(i), registers(i, u.writes); !slices.Equal(got, want) {
			t.Fatalf("Writes(%+v): %v, not %v", i, got, want)
		}
	}
}

// P2.2: some in words.
func TestRegistersByHand(t *testing.T) {
	for _, x := range []struct {
		i                      api.Insn
		reads, address, writes []int
	}{
		{api.Insn{Op: api.AddImm, Rd: 31, Rn: 31, Flags: true}, []int{31}, nil, nil},
		{api.Insn{Op: api.AddImm, Rd: 31, Rn: 4}, []int{4}, nil, []int{31}},
		{api.Insn{Op: api.LogImm, Rd: 31, Rn: 31}, nil, nil, []int{31}},
		{api.Insn{Op: api.LogImm, Rd: 31, Rn: 31, Flags: true}, nil, nil, nil},
		{api.Insn{Op: api.Mul, Rd: 9, Rn: 30, Rm: 2, Ra: 2}, []int{2, 30}, nil, []int{9}},
		{api.Insn{Op: api.Mul, Rd: 1, Rn: 9, Rm: 5, Ra: 3}, []int{3, 5, 9}, nil, []int{1}},
		{api.Insn{Op: api.MovWide, Rd: 31, Sub: 3}, nil, nil, nil},
		{api.Insn{Op: api.MovWide, Rd: 6, Sub: 2}, nil, nil, []int{6}},
		{api.Insn{Op: api.StrReg, Rd: 9, Rn: 31, Rm: 3}, []int{3, 9, 31}, []int{3, 31}, nil},
		{api.Insn{Op: api.StrReg, Rd: 9, Rn: 3, Rm: 31}, []int{3, 9}, []int{3}, nil},
		{api.Insn{Op: api.LdrReg, Rd: 9, Rn: 9, Rm: 9}, []int{9}, []int{9}, []int{9}},
		{api.Insn{Op: api.Stxr, Rd: 31, Rn: 31, Rm: 31}, []int{31}, []int{31}, nil},
		{api.Insn{Op: api.Stxr, Rd: 8, Rn: 5, Rm: 0}, []int{5, 8}, []int{5}, []int{0}},
		{api.Insn{Op: api.Br, Rn: 30, Sub: 1}, []int{30}, nil, []int{30}},
		{api.Insn{Op: api.Br, Rn: 30, Sub: 2}, []int{30}, nil, nil},
		{api.Insn{Op: api.DcCvau, Rd: 31}, nil, nil, nil},
		{api.Insn{Op: api.IcIvau, Rd: 30}, []int{30}, []int{30}, nil},
		{api.Insn{Op: api.Mrs, Rd: 2, Sys: api.SysSp0}, nil, nil, []int{2}},
		{api.Insn{Op: api.Msr, Rd: 31, Sys: api.SysSp0}, nil, nil, nil},
		{api.Insn{Op: api.Eret}, nil, nil, nil},
	} {
		if r, a, w := insn.Reads(x.i), insn.Address(x.i), insn.Writes(x.i); !slices.Equal(r, x.reads) || !slices.Equal(a, x.address) || !slices.Equal(w, x.writes) {
			t.Errorf("%+v: %v %v %v", x.i, r, a, w)
		}
	}
}

// P2.2 (and P3): each answer is new memory, spare room too.
func TestRegistersAreNew(t *testing.T) {
	i := api.Insn{Op: api.LdrReg, Rd: 1, Rn: 2, Rm: 3}
	for _, call := range []func(api.Insn) []int{insn.Reads, insn.Address, insn.Writes} {
		want := slices.Clone(call(i))
		first, second := call(i), call(i)
		for k := range first[:cap(first)] {
			first[:cap(first)][k] = -1
		}
		if !slices.Equal(second, want) || !slices.Equal(call(i), want) {
			t.Error("an answer is shared:", second, want)
		}
	}
}

// P2.2: flags, read and written.
func TestFlags(t *testing.T) {
	for _, i := range samples() {
		read := i.Op == api.Sel || i.Op == api.BCond || i.Op == api.Mrs && i.Sys == api.SysNzcv
		write := i.Flags || i.Op == api.Msr && i.Sys == api.SysNzcv
		if r, w := insn.Flags(i); r != read || w != write {
			t.Fatalf("Flags(%+v): %v %v", i, r, w)
		}
	}
}

// P2.3: where a block ends.
func TestEnds(t *testing.T) {
	always := []int{
		api.B, api.BCond, api.Cbz, api.Tbz, api.Br, api.Clrex, api.Isb, api.IcIvau, api.IcIallu, api.DcCvau,
		api.Mrs, api.Msr, api.MsrMask, api.Svc, api.Brk, api.Eret,
	}
	for _, i := range samples() {
		want := slices.Contains(always, i.Op) || i.Op == api.Dmb && i.Sub == 1 || i.Op == api.Hint && i.Imm >= 2
		if insn.Ends(i) != want {
			t.Fatalf("Ends(%+v) is not %v", i, want)
		}
	}
}

// P2.3: the two Ops that end a block in some forms alone.
func TestEndsByForm(t *testing.T) {
	for imm, want := range []bool{false, false, true, true, true, true} {
		if insn.Ends(api.Insn{Op: api.Hint, Imm: imm}) != want {
			t.Error("Hint", imm)
		}
	}
	for imm := 1; imm <= 3; imm++ {
		if insn.Ends(api.Insn{Op: api.Dmb, Imm: imm}) || !insn.Ends(api.Insn{Op: api.Dmb, Sub: 1, Imm: imm}) {
			t.Error("Dmb", imm)
		}
	}
}
