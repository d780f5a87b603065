package code_test

import (
	"slices"
	"strconv"
	"strings"

	"understudy/api"
	"understudy/insn"
)

// row is one of the chapter's table, as text: a field, what it is divided by, its lowest bits that are
// left out, where it goes, with how many bits ("Imm/4>0@5:19"; one bit, if none are told; a register's five).
// of is the Sub that the base is of, -1 of any.
type row struct {
	op, of int
	base   uint32
	parts  string
	sign   int // so many bits of Imm, the highest one its sign
	values map[string][]int
}

// kind is a row, its parts taken from the text; mask has the bits that none of them has.
type kind struct {
	row
	parts []part
	mask  uint32
}

func kinds() []kind {
	var out []kind
	for _, r := range rows() {
		k := kind{row: r, parts: r.split(), mask: 0xFFFFFFFF}
		for _, p := range k.parts {
			k.mask -= (1<<p.many - 1) << p.at
		}
		out = append(out, k)
	}
	return out
}

func rows() []row {
	const sum, logic, two = "Minus@30 Flags@29 ", "Kind@29:2 ", " Rn@5 Rd@0"
	subs := []int{0, 1, 2, 3}
	six, half := ends(0, 63, 1), ends(0, 65535, 1)
	conds := []int{0, 1, 2, 4, 8, 15}
	near := ends(-1<<20, 1<<20-4, 4)
	return []row{
		{api.AddImm, 0, 0x91000000, sum + "Amount/12@22 Imm@10:12" + two, 0, values{"Amount": {0, 12}, "Imm": ends(0, 4095, 1)}},
		{api.AddReg, 0, 0x8B000000, sum + "Shift@22:2 Rm@16 Amount@10:6" + two, 0, values{"Shift": subs, "Amount": six}},
		{api.LogReg, -1, 0x8A000000, logic + "Shift@22:2 Not@21 Rm@16 Amount@10:6" + two, 0, values{"Sub": subs, "Shift": subs, "Amount": six}},
		{api.LogImm, -1, 0x92000000, logic + "Amount@22 Imm@16:6 Imm2@10:6" + two, 0, values{"Sub": subs, "Amount": {0, 1}, "Imm": six, "Imm2": append(six, 0x3C, 0x38, 0x1E)}},
		{api.MovWide, -1, 0x92800000, "Sub@29:2 Amount/16@21:2 Imm@5:16 Rd@0", 0, values{"Sub": subs, "Amount": {0, 16, 32, 48}, "Imm": half}},
		{api.Bitfield, -1, 0x93400000, "Sub@29:2 Imm@16:6 Imm2@10:6" + two, 0, values{"Sub": subs, "Imm": six, "Imm2": six}},
		{api.ShiftReg, -1, 0x9AC02000, "Sub@10:2 Rm@16" + two, 0, values{"Sub": subs}},
		{api.Mul, 0, 0x9B000000, "Minus@15 Rm@16 Ra@10" + two, 0, nil},
		{api.Div, -1, 0x9AC00800, "Sub@10 Rm@16" + two, 0, values{"Sub": subs}},
		{api.Sel, -1, 0x9A800000, "Sub>1@30 Sub@10 Rm@16 Cond@12:4" + two, 0, values{"Sub": subs, "Cond": conds}},
		{api.Adr, 0, 0x10000000, "Imm@29:2 Imm>2@5:19 Rd@0", 21, values{"Imm": ends(-1<<20, 1<<20-1, 1)}},
		{api.Adr, 1, 0x90000000, "Imm/4096@29:2 Imm/4096>2@5:19 Rd@0", 21, values{"Sub": {1}, "Imm": ends(-1<<32, 1<<32-4096, 4096)}},
		{api.B, 0, 0x14000000, "Link@31 Imm/4@0:26", 26, values{"Imm": ends(-1<<27, 1<<27-4, 4)}},
		{api.BCond, 0, 0x54000000, "Imm/4@5:19 Cond@0:4", 19, values{"Imm": near, "Cond": conds}},
		{api.Cbz, 0, 0xB4000000, "Not@24 Imm/4@5:19 Rd@0", 19, values{"Imm": near}},
		{api.Tbz, 0, 0x36000000, "Not@24 Amount>5@31 Amount@19:5 Imm/4@5:14 Rd@0", 14, values{"Amount": six, "Imm": ends(-1<<15, 1<<15-4, 4)}},
		{api.Br, -1, 0xD61F0000, "Sub@21:2 Rn@5", 0, values{"Sub": subs}},
		{api.Ldr, 0, 0xF9400000, "Imm/8@10:12" + two, 0, values{"Imm": ends(0, 32760, 8)}},
		{api.Str, 0, 0xF9000000, "Imm/8@10:12" + two, 0, values{"Imm": ends(0, 32760, 8)}},
		{api.LdrReg, 0, 0xF8606800, "Amount/3@12 Rm@16" + two, 0, values{"Amount": {0, 3}}},
		{api.StrReg, 0, 0xF8206800, "Amount/3@12 Rm@16" + two, 0, values{"Amount": {0, 3}}},
		{api.Ldar, 0, 0xC8DFFC00, two, 0, nil},
		{api.Ldar, 1, 0xF8BFC000, two, 0, values{"Sub": {1}}},
		{api.Stlr, 0, 0xC89FFC00, two, 0, nil},
		{api.Ldxr, -1, 0xC85F7C00, "Sub@15" + two, 0, values{"Sub": subs}},
		{api.Stxr, -1, 0xC8007C00, "Sub@15 Rm@16" + two, 0, values{"Sub": subs}},
		{api.Clrex, 0, 0xD5033F5F, "", 0, nil},
		{api.Dmb, 0, 0xD5033CBF, "Imm@8:2", 0, values{"Imm": subs}},
		{api.Dmb, 1, 0xD5033C9F, "Imm@8:2", 0, values{"Sub": {1}, "Imm": subs}},
		{api.Isb, 0, 0xD5033FDF, "", 0, nil},
		{api.IcIvau, 0, 0xD50B7520, "Rd@0", 0, nil},
		{api.DcCvau, 0, 0xD50B7B20, "Rd@0", 0, nil},
		{api.IcIallu, 0, 0xD508751F, "", 0, nil},
		{api.Mrs, 0, 0xD5300000, "Sys@5:15 Rd@0", 0, values{"Sys": {0x4600, 0x4005, 0x5A10, 0x5A11, 0x5F1A, 0x5E82}}},
		{api.Msr, 0, 0xD5100000, "Sys@5:15 Rd@0", 0, values{"Sys": {0x4661, 0x465D, 0x4208, 0x5A10, 0x5F19}}},
		{api.MsrMask, 0, 0xD50340DF, "Imm@8:4", 0, values{"Imm": ends(0, 15, 1)}},
		{api.MsrMask, 1, 0xD50340FF, "Imm@8:4", 0, values{"Sub": {1}, "Imm": ends(0, 15, 1)}},
		{api.Svc, 0, 0xD4000001, "Imm@5:16", 0, values{"Imm": half}},
		{api.Brk, 0, 0xD4200000, "Imm@5:16", 0, values{"Imm": half}},
		{api.Eret, 0, 0xD69F03E0, "", 0, nil},
		{api.Hint, 0, 0xD503201F, "Imm@5:3", 0, values{"Imm": {0, 1, 2, 3, 4, 5, 6, 7}}},
	}
}

type values = map[string][]int

// ends are the multiples of step from low to high with one bit, or all but one, and both ends.
func ends(low, high, step int) []int {
	out := []int{low, high, 0}
	for n := step; n <= high; n *= 2 {
		out = append(out, n, high&^n)
		if low < 0 {
			out = append(out, -n)
		}
	}
	return out
}

// part is one of a row's.
type part struct {
	name                 string
	unit, from, at, many int
}

func (r row) split() []part {
	var out []part
	for _, text := range strings.Fields(r.parts) {
		p := part{unit: 1, many: 1}
		name, place, _ := strings.Cut(text, "@")
		name, from, _ := strings.Cut(name, ">")
		name, unit, _ := strings.Cut(name, "/")
		at, many, _ := strings.Cut(place, ":")
		p.name = name
		if name[0] == 'R' {
			p.many = 5
		}
		for text, to := range map[string]*int{"f" + from: &p.from, "u" + unit: &p.unit, "a" + at: &p.at, "m" + many: &p.many} {
			if len(text) > 1 {
				*to, _ = strconv.Atoi(text[1:])
			}
		}
		out = append(out, p)
	}
	return out
}

func get(i api.Insn, name string) int {
	switch name {
	case "Minus":
		return count(i.Minus)
	case "Flags":
		return count(i.Flags)
	case "Not":
		return count(i.Not)
	case "Link":
		return count(i.Link)
	case "Kind":
		return max(i.Sub, 3*count(i.Flags))
	}
	return *number(&i, name)
}

func count(is bool) int {
	if is {
		return 1
	}
	return 0
}

func number(i *api.Insn, name string) *int {
	return map[string]*int{
		"Sub": &i.Sub, "Rd": &i.Rd, "Rn": &i.Rn, "Rm": &i.Rm, "Ra": &i.Ra, "Imm": &i.Imm, "Imm2": &i.Imm2,
		"Amount": &i.Amount, "Shift": &i.Shift, "Cond": &i.Cond, "Sys": &i.Sys,
	}[name]
}

func set(i *api.Insn, name string, n int) {
	switch name {
	case "Minus":
		i.Minus = n != 0
	case "Flags":
		i.Flags = n != 0
	case "Not":
		i.Not = n != 0
	case "Link":
		i.Link = n != 0
	case "Kind":
		i.Sub, i.Flags = n%3, n == 3
	default:
		*number(i, name) = n
	}
}

// encode is the sum that P3.1 says.
func (k kind) encode(i api.Insn) uint32 {
	w := k.base
	for _, p := range k.parts {
		w += uint32(get(i, p.name)/p.unit>>p.from&(1<<p.many-1)) << p.at
	}
	return w
}

// decode is what P3.2 says: the fields of a kind that fits are gathered, then held against Right and encode.
func decode(all []kind, w uint32) api.Insn {
	for _, k := range all {
		if w&k.mask != k.base {
			continue
		}
		if i := k.gather(w); insn.Right(i) && k.encode(i) == w {
			return i
		}
	}
	return api.Insn{}
}

func (k kind) gather(w uint32) api.Insn {
	i := api.Insn{Op: k.op, Sub: max(k.of, 0)}
	sums, units := map[string]int{}, map[string]int{}
	for _, p := range k.parts {
		sums[p.name] += int(w>>p.at&(1<<p.many-1)) << p.from
		units[p.name] = p.unit
	}
	if v := sums["Imm"]; k.sign > 0 && v >= 1<<(k.sign-1) {
		sums["Imm"] = v - 1<<k.sign
	}
	for name, v := range sums {
		set(&i, name, v*units[name])
	}
	return i
}

// samples are right instructions: each value of each field with each of the others', and some registers.
func (k kind) samples() []api.Insn {
	list := []api.Insn{{Op: k.op}}
	for _, name := range []string{"Sub", "Imm", "Imm2", "Amount", "Shift", "Cond", "Sys"} {
		if len(k.values[name]) > 0 {
			list = cross(list, name, k.values[name])
		}
	}
	for _, name := range []string{"Minus", "Flags", "Not", "Link"} {
		list = cross(list, name, []int{0, 1})
	}
	list = slices.DeleteFunc(list, func(i api.Insn) bool { return !insn.Right(i) })
	var out []api.Insn
	for at := 0; at < len(list); at += len(list)/4000 | 1 { // an odd step, so that no field stays the same
		i := list[at]
		for _, x := range [][4]int{{0, 0, 0, 0}, {31, 31, 31, 31}, {1, 2, 4, 8}, {16, 1, 2, 4}, {8, 16, 1, 2}, {30, 29, 27, 23}} {
			for at, name := range []string{"Rd", "Rn", "Rm", "Ra"} {
				if strings.Contains(k.row.parts, name) {
					set(&i, name, x[at])
				}
			}
			out = append(out, i)
		}
	}
	return out
}

func cross(list []api.Insn, name string, values []int) []api.Insn {
	var out []api.Insn
	for _, i := range list {
		for _, n := range values {
			set(&i, name, n)
			out = append(out, i)
		}
	}
	return out
}
