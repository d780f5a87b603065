package ir_test

import (
	"math"
	"math/rand"
	"strconv"
	"strings"
	"testing"

	"understudy/api"
	"understudy/ir"
)

// P16.4: the chapter's example.
func TestTextExample(t *testing.T) {
	if s, e := ir.Text(example()); e != api.OK || s != "0 at 64\n1 getx 1\n2 const 0\n3 alu 1 1 2\n4 load 3 0\n5 setx 0 4\n6 exit 68\n" {
		t.Error(s, e)
	}
}

// P16.4: a line of each kind, written out.
func TestTextOfEachKind(t *testing.T) {
	b := block(
		number(math.MaxUint64), getX(30), setX(29, 1), getSP(), setSP(2), getF(3), setF(2, 4), reckon(api.ASlt, 1, 2),
		load(1, api.OAcqPC), store(8, 9, api.ORel), loadEx(9, api.OAcq), storeEx(2, 1, api.ORel), fence(api.FenceSt), at(1<<63), exitIf(12, 3), exitTo(11))
	want := `0 at 64
1 const 18446744073709551615
2 getx 30
3 setx 29 1
4 getsp
5 setsp 2
6 getf 3
7 setf 2 4
8 alu 15 1 2
9 load 1 1
10 store 8 9 4
11 loadex 9 2
12 storeex 2 1 4
13 fence 10
14 at 9223372036854775808
15 exitif 12 3
16 exitto 11
`
	if s, e := ir.Text(b); e != api.OK || s != want {
		t.Error(s, e)
	}
	for last, want := range map[api.Op]string{exit(math.MaxUint64): "exit 18446744073709551615", exit(0): "exit 0", guest(math.MaxUint32): "guest 4294967295", guest(0): "guest 0"} {
		if s, e := ir.Text(block(last)); e != api.OK || s != "0 at 64\n1 "+want+"\n" {
			t.Error(s, e)
		}
	}
}

// P16.4: the text of a block that is not right is none.
func TestTextWrong(t *testing.T) {
	for _, b := range []api.Block{{}, block(), block(number(1)), block(setX(0, 0), exit(0)), block(api.Op{Kind: 19}, exit(0)), block(api.Op{}, exit(0)), block(api.Op{Kind: -1}, exit(0)), block(exit(0), exit(0)), {PC: 68, Words: 1, Ops: example().Ops}} {
		if s, e := ir.Text(b); s != "" || e != api.ErrBlock {
			t.Error(s, e)
		}
	}
}

// told is an operation's line, behind its place, by the table.
func told(o api.Op, known map[int]row) string {
	r := known[o.Kind]
	words := []string{r.name}
	for _, field := range strings.Fields(r.fields) {
		n := map[string]uint64{"R": uint64(o.R), "A": uint64(o.A), "B": uint64(o.B), "Order": uint64(o.Order), "Imm": o.Imm}[field]
		words = append(words, strconv.FormatUint(n, 10))
	}
	return strings.Join(words, " ")
}

// P16.4: of blocks by chance, short and as long as may be, each operation has its line.
func TestTextByChance(t *testing.T) {
	r := rand.New(rand.NewSource(164))
	known := rows()
	for k := range 300 {
		many := 2 + r.Intn(40)
		if k%50 == 0 {
			many = api.MaxOps
		}
		b := byChance(r, many)
		want := ""
		for place, o := range b.Ops {
			want += strconv.Itoa(place) + " " + told(o, known) + "\n"
		}
		if s, e := ir.Text(b); e != api.OK || s != want {
			t.Fatalf("%v\n%s\nnot\n%s", e, s, want)
		}
	}
}
