package order_test

import (
	"slices"
	"testing"

	"understudy/api"
	"understudy/order"
)

// quiet are operations of each quiet kind, of the values 1 and 3; those behind are all others, of the values 1 to 3.
func quiet() []api.Op {
	return []api.Op{number(3), getX(5), getSP(), getF(2), sum(1, 3), reckon(api.ASlt, 1, 3), at(72)}
}

func sets() []api.Op { return []api.Op{setX(0, 1), setSP(2), setF(3, 1)} }

func fences() []api.Op {
	return []api.Op{fence(api.FenceLd), fence(api.FenceSt), fence(api.FenceFull)}
}

func exclusives() []api.Op {
	return []api.Op{loadEx(2, 0), loadEx(2, api.OAcq), storeEx(2, 3, 0), storeEx(2, 3, api.ORel)}
}

func ordered() []api.Op {
	return []api.Op{load(2, api.OAcqPC), load(2, api.OAcq), store(2, 3, api.ORel)}
}

func plain() []api.Op { return []api.Op{load(2, 0), store(2, 3, 0)} }

// P20.1: of each two fences the second one has the bits of both; between them may stand all but accesses and IExitIfs.
func TestMergeTwo(t *testing.T) {
	for _, f := range fences() {
		for _, g := range fences() {
			both := f
			if f != g {
				both = fence(api.FenceFull)
			}
			hold(t, "Merge", []row{{some(f, g), some(both)}})
			for _, o := range slices.Concat(quiet(), sets()) {
				hold(t, "Merge", []row{{some(f, o, g), some(o, both)}, {some(o, f, g, o), some(o, both, o)}})
			}
			for _, o := range slices.Concat(plain(), ordered(), exclusives(), []api.Op{exitIf(1, 4)}) {
				hold(t, "Merge", []row{{some(f, o, g), some(f, o, g)}})
			}
		}
		hold(t, "Merge", []row{{some(f), some(f)}, {block(f, guest(7)), block(f, guest(7))}, {block(getX(1), f, exitTo(1)), block(getX(1), f, exitTo(1))}})
	}
}

// P20.1: of more than two the last one stays; rows of them that are apart stay apart; places are told anew.
func TestMergeMore(t *testing.T) {
	ld, st, full := fence(api.FenceLd), fence(api.FenceSt), fence(api.FenceFull)
	hold(t, "Merge", []row{
		{some(ld, ld, ld), some(ld)}, {some(st, st, st, st), some(st)}, {some(ld, ld, st), some(full)}, {some(st, st, ld), some(full)}, {some(st, ld, ld), some(full)}, {some(full, st, ld), some(full)},
		{some(ld, st, load(1, 0), st, st), some(full, load(1, 0), st)},
		{some(ld, load(1, 0), st, exitIf(1, 8), ld, full), some(ld, load(1, 0), st, exitIf(1, 8), full)},
		{some(ld, load(1, 0), ld, store(1, 2, 0), ld), some(ld, load(1, 0), ld, store(1, 2, 0), ld)},
		{some(ld, at(68), st, at(72), ld, at(76)), some(at(68), at(72), full, at(76))},
		{some(ld, number(5), setX(0, 10), st, sum(1, 10), load(13, 0), ld, store(13, 14, 0)), some(number(5), setX(0, 9), full, sum(1, 9), load(12, 0), ld, store(12, 13, 0))},
	})
}

// P20.2 (a): a plain load goes behind each load and store of its address, whatever their order, and uses their value; one of another order stays.
func TestLoadAgain(t *testing.T) {
	for _, r := range []struct {
		o     api.Op
		value int
	}{{load(1, 0), 9}, {load(1, api.OAcqPC), 9}, {load(1, api.OAcq), 9}, {store(1, 3, 0), 3}, {store(1, 3, api.ORel), 3}, {store(1, 1, 0), 1}} {
		hold(t, "Loads", []row{{some(r.o, load(1, 0), setX(0, 10)), some(r.o, setX(0, r.value))}})
		for _, order := range []int{api.OAcqPC, api.OAcq} {
			b := some(r.o, load(1, order), setX(0, 10))
			hold(t, "Loads", []row{{b, b}})
		}
		for _, o := range []api.Op{loadEx(1, 0), loadEx(1, api.OAcq)} { // these stay, behind one of their address too
			b := some(r.o, o, setX(0, 10))
			hold(t, "Loads", []row{{b, b}})
		}
		for _, o := range slices.Concat(quiet(), sets(), []api.Op{exitIf(1, 4), load(2, 0)}) { // these may stand between
			hold(t, "Loads", []row{{some(r.o, o, load(1, 0), setX(0, 11)), some(r.o, o, setX(0, r.value))}})
		}
		for _, o := range slices.Concat(ordered(), exclusives(), fences(), []api.Op{store(2, 3, 0)}) {
			b := some(r.o, o, load(1, 0), setX(0, 11))
			hold(t, "Loads", []row{{b, b}})
		}
	}
}

// P20.2 (a): what has the address but is no load or store tells no value; nor does an access of another value, though it may be the same number.
func TestLoadOfOthers(t *testing.T) {
	for _, o := range []api.Op{loadEx(1, 0), loadEx(1, api.OAcq), storeEx(1, 3, 0), storeEx(1, 3, api.ORel), load(2, 0), load(6, 0), store(2, 1, 0), store(3, 1, 0)} {
		b := some(o, load(1, 0), setX(0, 10))
		hold(t, "Loads", []row{{b, b}})
	}
	for _, b := range []api.Block{
		block(number(8), number(8), load(1, 0), load(2, 0), exit(68)), block(getX(1), getX(1), load(1, 0), load(2, 0), exit(68)),
		block(number(8), number(8), store(1, 1, 0), load(2, 0), exit(68)), block(number(8), number(8), store(1, 1, 0), store(2, 2, 0), exit(68)),
		block(getX(1), number(8), sum(1, 2), sum(1, 2), load(3, 0), load(4, 0), exit(68)),
	} {
		hold(t, "Loads", []row{{b, b}})
	}
}

// P20.2 (a): the last one of several tells the value; accesses between, of the same address or another one, count by themselves.
func TestLoadOfSeveral(t *testing.T) {
	acq := load(1, api.OAcq)
	hold(t, "Loads", []row{
		{some(load(1, 0), load(1, 0), load(1, 0), setX(0, 11)), some(load(1, 0), setX(0, 9))},
		{some(load(1, 0), acq, load(1, 0), setX(0, 11)), some(load(1, 0), acq, setX(0, 10))},
		{some(store(1, 3, 0), acq, load(1, 0), setX(0, 11)), some(store(1, 3, 0), acq, setX(0, 10))},
		{some(acq, store(1, 3, 0), load(1, 0), setX(0, 11)), some(acq, store(1, 3, 0), setX(0, 3))},
		{some(load(1, 0), store(1, 4, api.ORel), load(1, 0), setX(0, 11)), some(load(1, 0), store(1, 4, api.ORel), setX(0, 4))},
		{some(load(1, 0), load(2, 0), load(1, 0), load(2, 0), sum(11, 12)), some(load(1, 0), load(2, 0), sum(9, 10))},
		{some(store(1, 3, 0), load(1, 0), store(2, 4, 0), load(2, 0), load(1, 0), setX(0, 12), setX(1, 10)), some(store(1, 3, 0), store(2, 4, 0), load(1, 0), setX(0, 4), setX(1, 3))},
		{some(load(1, 0), fence(api.FenceLd), load(1, 0), load(1, 0), setX(0, 12)), some(load(1, 0), fence(api.FenceLd), load(1, 0), setX(0, 11))},
		{some(exitIf(1, 4), load(1, 0), exitIf(10, 8), load(1, 0), exitIf(12, 12)), some(exitIf(1, 4), load(1, 0), exitIf(10, 8), exitIf(10, 12))},
	})
}

// P20.2 (a): all that used the value uses the other one, wherever it has it; so addresses may come to be the same.
func TestUsedInstead(t *testing.T) {
	uses := func(v int) []api.Op {
		return []api.Op{setX(0, v), setSP(v), setF(1, v), sum(v, 1), sum(1, v), reckon(api.AXor, v, v), load(v, api.OAcq), loadEx(v, 0), store(v, 1, api.ORel), store(1, v, api.ORel), storeEx(v, v, 0), exitIf(v, 4)}
	}
	for k := range uses(0) {
		hold(t, "Loads", []row{
			{some(load(1, 0), load(1, 0), uses(10)[k]), some(load(1, 0), uses(9)[k])},
			{some(store(1, 3, 0), number(7), load(1, 0), uses(11)[k], uses(11)[k]), some(store(1, 3, 0), number(7), uses(3)[k], uses(3)[k])},
		})
	}
	hold(t, "Loads", []row{
		{block(getX(1), load(1, 0), load(1, 0), exitTo(3)), block(getX(1), load(1, 0), exitTo(2))},
		{some(load(1, 0), load(1, 0), load(9, 0), load(10, 0), load(11, 0), load(12, 0), setX(0, 14)), some(load(1, 0), load(9, 0), load(10, 0), setX(0, 11))},
		{some(store(1, 2, 0), load(1, 0), load(2, 0), load(10, 0), setX(0, 12)), some(store(1, 2, 0), load(2, 0), setX(0, 10))},
		{some(store(1, 2, 0), load(1, 0), store(2, 3, 0), store(10, 4, 0)), some(store(1, 2, 0), store(2, 4, 0))},
		{some(store(1, 3, 0), load(1, 0), store(1, 4, 0), load(1, 0), setX(0, 10), setX(1, 12)), some(store(1, 4, 0), setX(0, 3), setX(1, 4))},
	})
}

// P20.2 (b): a plain store goes ahead of a plain one to its address, if all between is quiet; IAts between stand behind that then.
func TestStoreOver(t *testing.T) {
	hold(t, "Loads", []row{
		{some(store(1, 3, 0), store(1, 4, 0)), some(store(1, 4, 0))},
		{some(store(1, 3, 0), store(1, 4, 0), store(1, 2, 0)), some(store(1, 2, 0))},
		{some(store(1, 3, 0), at(68), store(1, 4, 0)), some(store(1, 4, 0), at(68))},
		{some(store(1, 3, 0), at(72), at(68), store(1, 4, 0), at(4)), some(store(1, 4, 0), at(72), at(68), at(4))},
		{some(store(1, 3, 0), at(68), store(1, 4, 0), at(72), store(1, 2, 0), at(76)), some(store(1, 2, 0), at(68), at(72), at(76))},
		{some(store(1, 3, 0), number(5), at(68), sum(10, 1), at(72), getX(9), store(1, 12, 0), sum(12, 14)), some(number(5), sum(9, 1), getX(9), store(1, 10, 0), at(68), at(72), sum(10, 11))},
		{some(store(1, 3, 0), store(2, 3, 0), store(1, 4, 0)), some(store(1, 3, 0), store(2, 3, 0), store(1, 4, 0))},
		{some(store(1, 3, 0), store(2, 3, 0), store(2, 4, 0), store(1, 4, 0)), some(store(1, 3, 0), store(2, 4, 0), store(1, 4, 0))},
	})
	for _, o := range quiet() {
		if o.Kind != api.IAt {
			hold(t, "Loads", []row{{some(store(1, 3, 0), o, store(1, 4, 0)), some(o, store(1, 4, 0))}})
		}
	}
	for _, o := range slices.Concat(plain(), ordered(), exclusives(), fences(), sets(), []api.Op{exitIf(1, 4)}) {
		b := some(store(1, 3, 0), o, store(1, 4, 0))
		hold(t, "Loads", []row{{b, b}})
	}
	for _, b := range []api.Block{
		some(store(1, 3, api.ORel), store(1, 4, 0)), some(store(1, 3, 0), store(1, 4, api.ORel)), some(store(1, 3, api.ORel), store(1, 4, api.ORel)),
		some(storeEx(1, 3, 0), store(1, 4, 0)), some(store(1, 3, 0), storeEx(1, 4, 0)), some(store(1, 3, 0), store(2, 3, 0)), some(store(1, 3, 0)),
		block(getX(1), store(1, 1, 0), exitTo(1)), block(getX(1), store(1, 1, 0), guest(3)),
	} {
		hold(t, "Loads", []row{{b, b}})
	}
}

// addresses are values that stand behind an IAt: 1 v, 2 u, and what the names say; two of one name have other places.
func addresses() ([]api.Op, []string) {
	return []api.Op{
		getX(1), getX(2), number(0), number(8), number(8), number(16), // 6
		sum(1, 3), sum(1, 4), sum(1, 5), sum(1, 6), // 10
		sum(2, 4), sum(4, 1), sum(1, 2), reckon(api.ASub, 1, 4), reckon(api.AXor, 1, 6), // 15
		sum(8, 4), sum(8, 6), sum(4, 4), sum(4, 6), sum(4, 3), getX(1), // 21
		reckon(api.ASub, 4, 6), reckon(api.AOr, 4, 6), load(1, api.OAcq), sum(24, 6), // 25
	}, []string{
		"", "v", "u", "0", "8", "8", "16",
		"v+0", "v+8", "v+8", "v+16",
		"u+8", "8+v", "v+u", "v-8", "v^16",
		"v+8+8", "v+8+16", "8+8", "8+16", "8+0", "v",
		"8-16", "8|16", "l", "l+16",
	}
}

// P20.3: which addresses are known to differ: all pairs of these, and no others, one way and the other.
func TestMayByAddresses(t *testing.T) {
	known := map[[2]int]bool{}
	for _, pair := range [][2]int{
		{3, 4}, {3, 5}, {3, 6}, {4, 6}, {5, 6}, // numbers that differ
		{7, 8}, {7, 9}, {7, 10}, {8, 10}, {9, 10}, // sums of one value
		{1, 8}, {1, 9}, {1, 10}, {2, 11}, {24, 25}, // a value, and more than it
		{16, 17}, {8, 16}, {8, 17},
		{18, 19}, {18, 20}, {19, 20}, {4, 18}, {4, 19},
	} {
		known[pair], known[[2]int{pair[1], pair[0]}] = true, true
	}
	values, names := addresses()
	for x := 1; x <= len(values); x++ {
		for y := 1; y <= len(values); y++ {
			b := block(append(values, store(x, 1, 0), load(y, 0), exit(68))...)
			holdsMay(t, b)
			if may, err := order.May(b, len(values)+1); err != api.OK || may != known[[2]int{x, y}] {
				t.Errorf("%s, %s (%d, %d): %v, %v", names[x], names[y], x, y, may, err)
			}
		}
	}
}

// P20.3: only a plain store and a plain load, between which all is quiet.
func TestMayByKinds(t *testing.T) {
	may := func(want bool, ops ...api.Op) {
		t.Helper()
		b := some(ops...)
		holdsMay(t, b)
		if is, err := order.May(b, 9); err != api.OK || is != want {
			t.Error(is, err, text(b))
		}
	}
	may(true, store(6, 3, 0), load(8, 0))
	may(true, store(8, 3, 0), load(1, 0))
	may(true, store(6, 3, 0), number(1), at(72), getX(3), load(8, 0))
	for _, o := range quiet() {
		may(true, store(6, 3, 0), o, load(8, 0))
		may(false, o, store(6, 3, 0), load(8, 0))
	}
	for _, o := range slices.Concat(plain(), ordered(), exclusives(), fences(), sets(), []api.Op{exitIf(1, 4)}) {
		may(false, store(6, 3, 0), o, load(8, 0))
		may(false, o, store(6, 3, 0), load(8, 0))
	}
	for _, o := range []api.Op{load(8, api.OAcqPC), load(8, api.OAcq), loadEx(8, 0), store(8, 3, 0), storeEx(8, 3, 0), fence(api.FenceLd)} {
		may(false, store(6, 3, 0), o)
	}
	for _, o := range []api.Op{store(6, 3, api.ORel), storeEx(6, 3, 0), load(6, 0), loadEx(6, 0), fence(api.FenceSt), at(68), setX(0, 6)} {
		may(false, o, load(8, 0))
	}
	may(false, store(6, 3, 0))
}

// P20.3: what stands between and is no IAt stands ahead of the load, and that ahead of the store; IAts stay behind it; as long as there is such a place.
func TestMove(t *testing.T) {
	s, l := store(6, 3, 0), load(8, 0)
	hold(t, "Move", []row{
		{some(s, l, setX(0, 10)), some(l, s, setX(0, 9))},
		{some(s, at(68), l, at(72)), some(l, s, at(68), at(72))},
		{some(s, at(72), at(68), l), some(l, s, at(72), at(68))},
		{some(s, number(16), at(68), sum(2, 10), at(72), load(12, 0), setX(0, 14)), some(s, number(16), at(68), sum(2, 10), at(72), load(12, 0), setX(0, 14))},
		{some(s, number(16), at(68), sum(1, 10), at(72), load(12, 0), setX(0, 14), store(14, 12, 0)), some(number(16), sum(1, 9), load(10, 0), s, at(68), at(72), setX(0, 11), store(11, 10, 0))},
		{some(s, l, load(1, 0), l), some(l, s, load(1, 0), l)},
		{some(store(8, 3, 0), load(6, 0), load(1, 0), sum(10, 11)), some(load(6, 0), load(1, 0), store(8, 3, 0), sum(9, 10))},
		{some(s, at(68), store(1, 3, 0), at(72), l), some(l, s, at(68), store(1, 3, 0), at(72))},
		{some(store(8, 3, 0), at(68), store(6, 3, 0), at(72), l), some(store(8, 3, 0), at(68), l, store(6, 3, 0), at(72))},
		{some(s, at(68), l, at(72), s, at(76), l, at(80)), some(l, l, s, at(68), at(72), s, at(76), at(80))},
		{some(s, fence(api.FenceLd), l), some(s, fence(api.FenceLd), l)},
		{some(s, setX(0, 1), l), some(s, setX(0, 1), l)},
		{some(s, exitIf(1, 4), l, s, l), some(s, exitIf(1, 4), l, l, s)},
		{some(store(6, 3, api.ORel), l), some(store(6, 3, api.ORel), l)},
		{some(s, load(8, api.OAcq)), some(s, load(8, api.OAcq))},
	})
}

// P20.4: All is fold, Merge, Loads, Move, dead: what one makes of a block, those behind it go on with; those ahead do not come again.
func TestAll(t *testing.T) {
	hold(t, "All", []row{
		{ // fold makes one value of two gets
			block(getX(1), store(1, 1, 0), getX(1), load(3, 0), setX(0, 4), exit(68)),
			block(getX(1), store(1, 1, 0), setX(0, 1), exit(68)),
		},
		{ // and dead takes what nobody uses: the value of a load that went
			block(getX(1), number(8), sum(1, 2), fence(13), number(5), fence(10), store(1, 1, 0), at(68), load(3, 0), setX(0, 9), setX(0, 1), exit(68)),
			block(getX(1), number(8), sum(1, 2), fence(15), load(3, 0), store(1, 1, 0), at(68), setX(0, 1), exit(68)),
		},
		{ // a load that goes lets nothing be folded any more: the sum of two numbers stays
			block(getX(1), number(5), store(1, 2, 0), load(1, 0), sum(4, 2), setX(0, 5), exit(68)),
			block(getX(1), number(5), store(1, 2, 0), sum(2, 2), setX(0, 4), exit(68)),
		},
		{ // nor does one that moved let another one go: Loads is ahead of Move
			block(getX(1), number(8), sum(1, 2), load(3, 0), store(1, 1, 0), load(3, 0), sum(4, 6), setX(0, 7), exit(68)),
			block(getX(1), number(8), sum(1, 2), load(3, 0), load(3, 0), store(1, 1, 0), sum(4, 5), setX(0, 7), exit(68)),
		},
		{ // an exit that is decided ends the block, with the fences behind it
			block(number(1), fence(13), exitIf(1, 100), fence(10), exit(68)),
			block(fence(13), exit(100)),
		},
		{ // one that is not taken does not keep fences apart
			block(number(0), fence(13), exitIf(1, 100), fence(10), exit(68)),
			block(fence(15), exit(68)),
		},
	})
}
