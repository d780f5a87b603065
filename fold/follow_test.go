package fold_test

import (
	"reflect"
	"testing"

	"understudy/api"
)

// bySteps is P18.2's Block: Steps, one behind the other, as long as they change something, no more than b has operations, and one.
func bySteps(t *testing.T, b api.Block) api.Block {
	t.Helper()
	x, changed := stepped(t, b)
	for k := 1; changed && k < len(b.Ops)+1; k++ {
		x, changed = stepped(t, x)
	}
	return x
}

// isItself holds Block of a block against Steps, and against Block and Step of itself.
func isItself(t *testing.T, b api.Block) {
	t.Helper()
	x := folded(t, b)
	if steps := bySteps(t, b); !reflect.DeepEqual(x, steps) {
		t.Fatalf("by Steps\n%s, not\n%s\nof\n%s", text(steps), text(x), text(b))
	}
	if again := folded(t, x); !reflect.DeepEqual(again, x) {
		t.Fatalf("Block of Block:\n%s, not\n%s\nof\n%s", text(again), text(x), text(b))
	}
	if again, changed := stepped(t, x); changed || !reflect.DeepEqual(again, x) {
		t.Fatalf("Step of Block: %v\n%s, not\n%s\nof\n%s", changed, text(again), text(x), text(b))
	}
}

// P18.2, P18.3: of blocks by chance: Block is Steps, Block of Block is Block, Step changes nothing of it, and there are never more operations.
func TestItselfByChance(t *testing.T) {
	eachByChance(1831, func(_ chance, b api.Block) { isItself(t, b) })
}

// P18.2: what Step tells of a change: true of each thing that is made simpler, false of a block of which nothing is.
func TestStepTellsChange(t *testing.T) {
	for _, b := range []api.Block{
		block(number(2), number(3), reckon(api.AAdd, 1, 2), exit(68)),
		block(getX(4), getX(4), exit(68)),
		block(number(7), setX(4, 1), getX(4), exit(68)),
		block(getSP(), getSP(), exit(68)),
		block(number(7), setSP(1), getSP(), exit(68)),
		block(getF(3), getF(3), exit(68)),
		block(number(1), setF(3, 1), getF(3), exit(68)),
		block(number(0), exitIf(1, 4), exit(68)),
		block(number(1), exitIf(1, 4), exit(68)),
	} {
		if _, changed := stepped(t, b); !changed {
			t.Error(text(b))
		}
	}
	for _, b := range []api.Block{
		block(exit(68)), block(guest(0)),
		block(number(2), getX(3), reckon(api.AAdd, 1, 2), exit(68)),
		block(getX(4), getX(5), setX(4, 1), exitTo(2)),
		block(getX(4), setF(3, 1), getF(3), getF(2), exit(68)),
		block(getX(4), exitIf(1, 4), exit(68)),
		block(getSP(), setSP(1), load(1, 0), storeEx(1, 3, 0), setX(0, 4), exit(68)),
	} {
		if _, changed := stepped(t, b); changed {
			t.Error(text(b))
		}
	}
}
