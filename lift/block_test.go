package lift_test

import (
	"math"
	"math/rand"
	"reflect"
	"slices"
	"testing"

	"understudy/api"
	"understudy/code"
	"understudy/ir"
	"understudy/lift"
)

// P17.1, P17.2: the chapter's examples.
func TestExamples(t *testing.T) {
	c := api.Core{PC: 64, EL: 1}
	c.X[1] = 8
	left := func(many int, words ...uint32) deeds {
		t.Helper()
		b := lifted(t, 64, 1, words...)
		if b.PC != 64 || b.EL != 1 || b.Words != many {
			t.Errorf("%x: %+v", words, b)
		}
		return byRun(t, b, c, []api.Got{{Value: 5}})
	}
	if d := left(1, 0x91000420); d.core.PC != 68 || d.core.X[0] != 9 || d.guest || d.faulted || d.wants != nil {
		t.Error(d)
	}
	if d := left(1, 0x17FFFFFF); d.core.PC != 60 || d.guest || d.faulted {
		t.Error(d)
	}
	if d := left(1, 0xF9400020); !slices.Equal(d.wants, []api.Want{{Kind: api.WLoad, Addr: 8}}) || d.core.X[0] != 5 || d.core.PC != 68 {
		t.Error(d)
	}
	if d := left(1, 0); !d.guest || d.word != 0 || d.core != c {
		t.Error(d)
	}
	if d := left(16, slices.Repeat([]uint32{nop}, 17)...); d.core.PC != 128 || d.wants != nil {
		t.Error(d)
	}
	c.X[1] = 4
	if d := left(1, 0xF9400020); !d.faulted || d.core != c || d.wants != nil {
		t.Error(d)
	}
}

// P17.1: what may not be: a PC that is no multiple of 4, a level that is none: ErrArg, whatever the words are, and none
// is asked; no word at the PC: ErrBlock. With an error there is no block.
func TestWrongInputs(t *testing.T) {
	refused := func(pc uint64, el int, words []uint32, want api.Errno, asks int) {
		t.Helper()
		a := asked{from: pc, words: words}
		if b, err := lift.Block(pc, el, a.word); err != want || !reflect.DeepEqual(b, api.Block{}) || len(a.addrs) != asks {
			t.Errorf("Block at %#x of the level %d: %v, %+v, asked %x", pc, el, err, b, a.addrs)
		}
	}
	for _, words := range [][]uint32{nil, {nop}, {0}} {
		for _, base := range []uint64{0, 64, 1 << 32, 1 << 63, math.MaxUint64 - 7, math.MaxUint64 - 3} {
			for low := uint64(1); low < 4; low++ {
				for el := range 2 {
					refused(base+low, el, words, api.ErrArg, 0)
				}
			}
			for _, el := range odd() {
				refused(base, el, words, api.ErrArg, 0)
				refused(base+2, el, words, api.ErrArg, 0)
			}
		}
	}
	for _, pc := range []uint64{0, 64, 1 << 63, math.MaxUint64 - 3} {
		refused(pc, 0, nil, api.ErrBlock, 1)
		refused(pc, 1, nil, api.ErrBlock, 1)
	}
	for _, word := range []uint32{nop, 0, 0xF9400020} {
		for _, el := range odd() {
			if b, err := lift.One(64, el, word); err != api.ErrArg || !reflect.DeepEqual(b, api.Block{}) {
				t.Error(el, err, b)
			}
		}
		for low := uint64(1); low < 4; low++ {
			if b, err := lift.One(64+low, 1, word); err != api.ErrArg || !reflect.DeepEqual(b, api.Block{}) {
				t.Error(low, err, b)
			}
		}
	}
}

// holdsExtent asks of a block of some words how many it has, what was asked, and where it has its IAts.
func holdsExtent(t *testing.T, pc uint64, el int, words []uint32) {
	t.Helper()
	a := asked{from: pc, words: words}
	b, err := lift.Block(pc, el, a.word)
	many := length(words)
	if err != api.OK || !ir.Right(b) || b.PC != pc || b.EL != el || b.Words != many {
		t.Fatalf("%x at %#x: %v, %+v, not %d words", words, pc, err, b, many)
	}
	last := code.Decode(words[many-1])
	asks := many
	if many < 16 && !isGuest(last) && !isBranch(last) {
		asks++
	}
	var want, ats []uint64
	for k := range asks {
		want = append(want, pc+4*uint64(k))
	}
	for _, o := range b.Ops {
		if o.Kind == api.IAt {
			ats = append(ats, o.Imm)
		}
	}
	if !slices.Equal(a.addrs, want) || !slices.Equal(ats, want[:many]) {
		t.Fatalf("%x at %#x: asked %x, not %x; at %x", words, pc, a.addrs, want, ats)
	}
}

// P17.1: a block ends behind each instruction behind which one does, and behind no other one; at a word that is none;
// at the 16th; ahead of an address of which there is no word; which words are asked.
func TestExtent(t *testing.T) {
	fill := slices.Repeat([]uint32{nop}, 20)
	for many := 1; many <= 20; many++ {
		holdsExtent(t, 64, 1, fill[:many])
		holdsExtent(t, -(4 * uint64(many)), 0, fill[:many])
		holdsExtent(t, math.MaxUint64-7, 0, fill[:many])
	}
	for _, i := range samples(6) {
		for _, ahead := range []int{0, 1, 13, 14, 15, 16} {
			words := slices.Concat(fill[:ahead], wordsOf(t, i), fill)
			holdsExtent(t, 64, i.Rd%2, words)
			holdsExtent(t, math.MaxUint64-7, i.Rd%2, words[:ahead+1])
		}
	}
	for _, word := range []uint32{0, 1, 0xFFFFFFFF, 0x1BFFFFFF, 0xD5380000, 0x91000420 &^ (1 << 31)} {
		for ahead := range 17 {
			holdsExtent(t, 4, 0, slices.Concat(fill[:ahead], []uint32{word}, fill))
			holdsExtent(t, 4, 1, slices.Concat(fill[:ahead], []uint32{word}))
		}
	}
}

// P17.1: rows of instructions by chance.
func TestExtentByChance(t *testing.T) {
	r := rand.New(rand.NewSource(171))
	for range 5000 {
		holdsExtent(t, anyPC(r), r.Intn(2), anyWords(t, r, 1+r.Intn(20)))
	}
}

// P17.1: One is the block of this word, and nothing behind it, wherever it is.
func TestOne(t *testing.T) {
	for _, i := range samples(30) {
		word := wordOf(t, i)
		for _, pc := range []uint64{0, 64, 1 << 63, math.MaxUint64 - 3} {
			for el := range 2 {
				b, err := lift.One(pc, el, word)
				if want := lifted(t, pc, el, word); err != api.OK || !reflect.DeepEqual(b, want) || b.Words != 1 {
					t.Fatalf("%+v: %v, %+v", i, err, b)
				}
			}
		}
	}
}

// P17.1: a false ends a block, whatever word is told beside it, and also if there is one again behind it.
func TestHole(t *testing.T) {
	for hole := uint64(1); hole < 16; hole++ {
		b, err := lift.Block(64, 1, func(addr uint64) (uint32, bool) { return nop, addr != 64+4*hole })
		if err != api.OK || b.Words != int(hole) || byRun(t, b, api.Core{PC: 64, EL: 1}, nil).core.PC != 64+4*hole {
			t.Error(hole, err, b)
		}
	}
}

// P1: a function that panics is caught: its call answers an error, and no block.
func TestWordPanics(t *testing.T) {
	for many := range 16 {
		b, err := lift.Block(64, 1, func(addr uint64) (uint32, bool) {
			if addr == 64+4*uint64(many) {
				panic("no word")
			}
			return nop, true
		})
		if err != api.ErrArg || !reflect.DeepEqual(b, api.Block{}) {
			t.Error(many, err, b)
		}
	}
	b, err := lift.Block(64, 1, func(addr uint64) (uint32, bool) {
		if addr == 128 {
			panic("the 17th word is not asked")
		}
		return nop, true
	})
	if err != api.OK || b.Words != 16 {
		t.Error(err, b)
	}
}

// P3, P4: the same words are the same block, each time in new memory.
func TestNewMemory(t *testing.T) {
	r := rand.New(rand.NewSource(3))
	for range 300 {
		words := anyWords(t, r, 1+r.Intn(16))
		b, again := lifted(t, 64, 0, words...), lifted(t, 64, 0, words...)
		if !reflect.DeepEqual(b, again) {
			t.Fatalf("%x: %+v, then %+v", words, b, again)
		}
		room := b.Ops[:cap(b.Ops)]
		for k := range room {
			room[k] = api.Op{Kind: -1}
		}
		if third := lifted(t, 64, 0, words...); !reflect.DeepEqual(third, again) {
			t.Fatalf("%x: %+v, then %+v", words, again, third)
		}
	}
}

// P17.1: one function that lifts while it is asked: blocks do not disturb each other.
func TestWithin(t *testing.T) {
	want := lifted(t, 64, 1, 0x91000420, 0xF9400020, 0x17FFFFFF)
	plain := asked{from: 64, words: []uint32{0x91000420, 0xF9400020, 0x17FFFFFF}}
	b, err := lift.Block(64, 1, func(addr uint64) (uint32, bool) {
		if inner := lifted(t, addr, 0, 0xEB01003F, 0xD4000001); inner.Words != 2 {
			t.Error(inner)
		}
		return plain.word(addr)
	})
	if err != api.OK || !reflect.DeepEqual(b, want) {
		t.Error(err, b)
	}
}
