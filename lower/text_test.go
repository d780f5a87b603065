package lower_test

import (
	"strconv"
	"strings"
	"testing"

	"understudy/api"
	"understudy/lower"
)

// tells holds Text of micro-code against its lines.
func tells(t *testing.T, c api.Code, lines ...string) {
	t.Helper()
	want := strings.Join(lines, "\n") + "\n"
	if text, err := lower.Text(c); err != api.OK || text != want {
		t.Errorf("%v\n%s\nnot\n%s", err, text, want)
	}
}

// P21.2: a line of each kind, written out, with all numbers of one line apart.
func TestTextOfEachKind(t *testing.T) {
	c := api.Code{PC: 64, Words: 1, EL: 1, Slots: 12, Ops: []api.Micro{
		{Kind: api.MAt, Imm: 64},
		{Kind: api.MConst, D: 6, Imm: 1<<64 - 1},
		{Kind: api.MMove, D: 5, A: 6},
		{Kind: api.MSpill, A: 5, Imm: 11},
		{Kind: api.MFill, D: 4, Imm: 11},
		{Kind: api.MGetX, R: 30, D: 3},
		{Kind: api.MSetX, R: 29, A: 3},
		{Kind: api.MGetSP, D: 2},
		{Kind: api.MSetSP, A: 4},
		{Kind: api.MGetF, R: 3, D: 1},
		{Kind: api.MSetF, R: 2, A: 1},
		{Kind: api.MAlu, R: api.ASlt, D: 7, A: 2, B: 3},
		{Kind: api.MLoad, D: 3, A: 7, Order: api.OAcqPC},
		{Kind: api.MStore, A: 7, B: 3, Order: api.ORel},
		{Kind: api.MLoadEx, D: 5, A: 6, Order: api.OAcq},
		{Kind: api.MStoreEx, D: 1, A: 5, B: 6, Order: api.ORel},
		{Kind: api.MFence},
		{Kind: api.MNote, R: api.FenceSt},
		{Kind: api.MAt, Imm: 1 << 63},
		{Kind: api.MExitIf, A: 5, Imm: 3},
		{Kind: api.MExitTo, A: 6},
	}}
	lines := []string{
		"at 64", "const 6 18446744073709551615", "move 5 6", "spill 5 11", "fill 4 11", "getx 30 3", "setx 29 3", "getsp 2", "setsp 4", "getf 3 1", "setf 2 1", "alu 15 7 2 3",
		"load 3 7 1", "store 7 3 4", "loadex 5 6 2", "storeex 1 5 6 4", "fence", "note 10", "at 9223372036854775808", "exitif 5 3", "exitto 6",
	}
	tells(t, c, lines...)
	for last, want := range map[api.Micro]string{
		{Kind: api.MExit, Imm: 1<<64 - 1}: "exit 18446744073709551615", {Kind: api.MExit}: "exit 0", {Kind: api.MGuest, Imm: 1<<32 - 1}: "guest 4294967295", {Kind: api.MGuest}: "guest 0",
	} {
		tells(t, api.Code{Words: 1, Ops: []api.Micro{{Kind: api.MAt}, last}}, "at 0", want)
	}
}

// P21.2: fields that are 0 are told, too.
func TestTextOfZeros(t *testing.T) {
	lines := []string{"at 64", "const 0 0", "move 0 0", "spill 0 0", "fill 0 0", "getx 0 0", "setx 0 0", "getsp 0", "setsp 0", "getf 0 0", "setf 0 0", "alu 1 0 0 0", "load 0 0 0", "store 0 0 0", "loadex 0 0 0", "storeex 0 0 0 0", "fence", "at 0", "exitif 0 0", "exitto 0"}
	tells(t, code(lines[1:]...), lines...)
}

// P21.2: micro-code that is not right has no text.
func TestTextWrong(t *testing.T) {
	those := []api.Code{{}, code(), code("const 0 1"), code("exit 0", "exit 0"), code("setx 0 0", "exit 0"), code("fill 0 0", "exit 0"), code("const 8 0", "exit 0"), code("note 14", "exit 0"), code("exitto 0")}
	for _, n := range odd() {
		c := code("const 0 1", "exit 0")
		c.Ops[1].Kind = n
		those = append(those, c)
	}
	for _, c := range those {
		if text, err := lower.Text(c); text != "" || err != api.ErrBlock {
			t.Errorf("%q, %v of %+v", text, err, c)
		}
	}
}

// P21.2: of micro-code by chance each operation has its line, by the table.
func TestTextByChance(t *testing.T) {
	known := map[int]row{}
	for _, r := range micros() {
		known[r.kind] = r
	}
	eachByChance(213, 600, func(c chance, b api.Block) {
		x, err := lower.Block(b, 3+c.Intn(6))
		if err != api.OK {
			t.Fatal(err)
		}
		var lines []string
		for _, o := range x.Ops {
			r := known[o.Kind]
			line := r.name
			for _, field := range strings.Fields(r.fields) {
				n := o.Imm
				if field != "Imm" {
					n = uint64(*fieldsOf(&o)[field])
				}
				line += " " + strconv.FormatUint(n, 10)
			}
			lines = append(lines, line)
		}
		tells(t, x, lines...)
	})
}
