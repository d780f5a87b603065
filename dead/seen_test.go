package dead_test

import (
	"slices"
	"testing"

	"understudy/api"
	"understudy/dead"
)

// those tells what Seen says of some places.
func those(t *testing.T, b api.Block, places ...int) []bool {
	t.Helper()
	all, err := dead.Seen(b)
	if err != api.OK || len(all) != len(b.Ops) {
		t.Fatalf("%v, %v of %+v", err, all, b)
	}
	var out []bool
	for _, place := range places {
		out = append(out, all[place])
	}
	return out
}

// between are all that may stand between two that set, by whether the block may be left there; the value 1 is there.
func between() (leave, quiet []api.Op) {
	leave = []api.Op{
		load(1, api.OPlain), load(1, api.OAcqPC), load(1, api.OAcq), loadEx(1, api.OPlain), loadEx(1, api.OAcq),
		store(1, 1, api.OPlain), store(1, 1, api.ORel), storeEx(1, 1, api.OPlain), storeEx(1, 1, api.ORel), exitIf(1, 4),
	}
	quiet = []api.Op{
		number(3), reckon(api.AAdd, 1, 1), fence(api.FenceLd), fence(api.FenceSt), fence(api.FenceFull), at(68),
	}
	return leave, quiet
}

// pair is one that sets and one that gets the same thing.
type pair struct{ set, get api.Op }

func pairs() []pair {
	out := []pair{{setSP(1), getSP()}}
	for r := range 31 {
		out = append(out, pair{setX(r, 1), getX(r)})
	}
	for r := range 4 {
		out = append(out, pair{setF(r, 1), getF(r)})
	}
	return out
}

// P19.1: each register, the stack pointer and each flag: what is set is seen, but where it is set anew behind, ahead of what leaves and of what gets it.
func TestSetAnew(t *testing.T) {
	leave, quiet := between()
	for _, p := range pairs() {
		for _, o := range leave {
			if s := those(t, block(number(8), p.set, o, p.set, exit(68)), 2, 4); !slices.Equal(s, []bool{true, true}) {
				t.Error(p, o, s)
			}
		}
		for _, o := range quiet {
			if s := those(t, block(number(8), p.set, o, p.set, exit(68)), 2, 4); !slices.Equal(s, []bool{false, true}) {
				t.Error(p, o, s)
			}
		}
		for _, last := range []api.Op{exit(68), exitTo(1), guest(7)} {
			if s := those(t, block(number(8), p.set, last), 1, 2); !slices.Equal(s, []bool{true, true}) {
				t.Error(p, last, s)
			}
		}
		if s := those(t, block(number(8), p.set, p.get, p.set, exit(68)), 2, 3, 4); !slices.Equal(s, []bool{true, false, true}) {
			t.Error(p, s)
		}
		if s := those(t, block(number(8), p.set, p.set, p.get, p.set, p.set, exit(68)), 2, 3, 5, 6); !slices.Equal(s, []bool{false, true, false, true}) {
			t.Error(p, s)
		}
		if s := those(t, block(number(8), p.get, p.set, p.set, p.get, exit(68)), 2, 3, 4, 5); !slices.Equal(s, []bool{false, false, true, false}) {
			t.Error(p, s)
		}
	}
}

// P19.1: another register than that one, another flag and the stack pointer neither set it anew, nor get it.
func TestOthersAreApart(t *testing.T) {
	for k, p := range pairs() {
		for n, other := range pairs() {
			if k == n {
				continue
			}
			if s := those(t, block(number(8), p.set, other.set, exit(68)), 2, 3); !slices.Equal(s, []bool{true, true}) {
				t.Error(p, other, s)
			}
			if s := those(t, block(number(8), p.set, other.set, other.get, p.set, exit(68)), 2, 3, 5); !slices.Equal(s, []bool{false, true, true}) {
				t.Error(p, other, s)
			}
		}
	}
}

// P19.1: an IAt is seen, but where there is another one behind it, ahead of what leaves; the first operation always is.
func TestAts(t *testing.T) {
	leave, quiet := between()
	for _, o := range leave {
		if s := those(t, block(number(8), at(68), o, at(72), exit(68)), 0, 2, 4); !slices.Equal(s, []bool{true, true, true}) {
			t.Error(o, s)
		}
	}
	for _, p := range pairs() {
		quiet = append(quiet, p.set, p.get)
	}
	for _, o := range quiet {
		if s := those(t, block(number(8), at(68), o, at(72), exit(68)), 0, 2, 4); !slices.Equal(s, []bool{true, false, true}) {
			t.Error(o, s)
		}
	}
	for _, last := range []api.Op{exit(68), exitTo(1), guest(7)} {
		if s := those(t, block(number(8), at(64), at(64), at(64), last), 0, 2, 3, 4, 5); !slices.Equal(s, []bool{true, false, false, true, true}) {
			t.Error(last, s)
		}
	}
}

// P19.1: a value is seen if a seen one uses it, by A or by B; an access and a fence are, used or not.
func TestValues(t *testing.T) {
	users := []api.Op{
		setX(0, 1), setSP(1), setF(0, 1), reckon(api.AAdd, 1, 1), load(1, 0), loadEx(1, 0), store(1, 1, 0), store(2, 1, 0), store(1, 2, 0), storeEx(2, 1, 0), storeEx(1, 2, 0), exitIf(1, 4),
	}
	for _, value := range []api.Op{number(8), getX(3), getSP(), getF(2)} {
		for _, o := range users {
			want := o.Kind != api.IAlu
			if s := those(t, block(value, number(0), o, exit(68)), 1, 3); !slices.Equal(s, []bool{want, want}) {
				t.Error(value, o, s)
			}
		}
		if s := those(t, block(value, exit(68)), 1); s[0] {
			t.Error(value)
		}
		if s := those(t, block(value, exitTo(1)), 1); !s[0] {
			t.Error(value)
		}
	}
	for k := range 3 { // of a sum of two, used or not, and by one that is seen or not
		b := block(number(8), number(16), reckon(api.ASub, 1, 2), []api.Op{exit(68), setX(0, 3), setX(0, 3)}[k])
		if k > 0 {
			b.Ops = append(b.Ops, [][]api.Op{{exit(68)}, {getX(9), setX(0, 5), exit(68)}}[k-1]...)
		}
		if s := those(t, b, 1, 2, 3); s[0] != (k == 1) || s[1] != (k == 1) || s[2] != (k == 1) {
			t.Error(k, s)
		}
	}
	leave, _ := between()
	for _, o := range append(leave, fence(api.FenceLd), fence(api.FenceSt), fence(api.FenceFull)) {
		if s := those(t, block(number(8), o, exit(68)), 2, 3); !slices.Equal(s, []bool{true, true}) {
			t.Error(o, s)
		}
	}
}

// P19.1, P19.2: a get counts though nobody sees it; it goes first, and what was set for it then.
func TestAgainAndAgain(t *testing.T) {
	for _, p := range pairs() {
		first := block(number(8), p.set, p.get, number(9), p.set, exit(68))
		first.Ops[5].A = 4
		if s := those(t, first, 0, 1, 2, 3, 4, 5, 6); !slices.Equal(s, []bool{true, true, true, false, true, true, true}) {
			t.Error(p, s)
		}
		last := p.set
		last.A = 1
		if x := told(t, first); !slices.Equal(x.Ops, block(number(9), last, exit(68)).Ops) {
			t.Error(text(x))
		}
	}
	for many := 6; many < 60; many++ {
		if x := told(t, peeled(many)); !slices.Equal(x.Ops, block(number(7), setX(0, 1), exit(68)).Ops) {
			t.Error(many, text(x))
		}
	}
}

// P19.2: places in A and B are told anew, each by what went ahead of it.
func TestPlacesAnew(t *testing.T) {
	b := block(
		number(1), number(8), at(68), number(2), getX(1), number(3), reckon(api.AAdd, 2, 5), at(72), // 8
		number(4), store(7, 5, api.ORel), number(5), load(2, api.OAcq), at(76), at(80), // 14
		storeEx(12, 7, 0), number(6), exitIf(15, 4), getSP(), setSP(15), setF(3, 12), exitTo(12), // 21
	)
	want := block(
		number(8), getX(1), reckon(api.AAdd, 1, 2), at(72), store(3, 2, api.ORel), load(1, api.OAcq), at(80), // 7
		storeEx(6, 3, 0), exitIf(8, 4), setSP(8), setF(3, 6), exitTo(6),
	)
	if x, err := dead.Block(b); err != api.OK || !slices.Equal(x.Ops, want.Ops) {
		t.Error(err, text(x))
	}
}

// P19.1, P19.2: blocks by chance, held against the words.
func TestByChance(t *testing.T) {
	less, again := 0, 0
	eachByChance(1921, func(_ chance, b api.Block) {
		unseen := 0
		for _, is := range seen(t, b) {
			if !is {
				unseen++
			}
		}
		gone := len(b.Ops) - len(told(t, b).Ops)
		if unseen > 0 {
			less++
		}
		if gone > unseen {
			again++
		}
	})
	if less < 15000 || again < 1500 {
		t.Error(less, again)
	}
}
