package lower_test

import (
	"math/rand"
	"slices"
	"strconv"
	"testing"

	"understudy/api"
	"understudy/ir"
	"understudy/lift"
	"understudy/order"
)

// moment is what is wanted, and the state's PC at that time.
type moment struct {
	want api.Want
	pc   uint64
}

// deeds are what a run wanted, and how it ended.
type deeds struct {
	moments []moment
	left    left
}

// ofBlock are a block's deeds, told some gots one behind the other, and each WHost that its micro-code wants beside.
func ofBlock(t *testing.T, b api.Block, c api.Core, gots []api.Got) deeds {
	t.Helper()
	r, err := ir.New(b, c)
	if err != api.OK {
		t.Fatalf("%v of %+v", err, b)
	}
	var d deeds
	host := func() {
		d.moments = append(d.moments, moment{api.Want{Kind: api.WHost}, r.Core().PC})
	}
	for w, waits := r.Next(); waits; w, waits = r.Next() {
		if w.Kind == api.WFence && w.Fence == api.FenceFull {
			host()
		}
		d.moments = append(d.moments, moment{w, r.Core().PC})
		if err := r.Take(gots[0]); err != api.OK {
			t.Fatal(err)
		}
		if w.Kind == api.WStore && w.Rel && gots[0].Fault == api.NoFault {
			host()
		}
		gots = gots[1:]
	}
	d.left.core, d.left.faulted = r.Core(), r.Faulted()
	d.left.word, d.left.guest = r.Guest()
	return d
}

// ofCode are those of micro-code that is told the same; what a WHost is told does not matter.
func ofCode(c api.Code, core api.Core, gots []api.Got) deeds {
	var d deeds
	d.left = play(c, core, func(w api.Want, now api.Core) api.Got {
		d.moments = append(d.moments, moment{w, now.PC})
		if w.Kind == api.WHost {
			return api.Got{Value: 3, Ok: true, Fault: api.Outside}
		}
		got := gots[0]
		gots = gots[1:]
		return got
	})
	return d
}

// means holds what Block tells of a block against the block itself, with each number of registers; the block's deeds.
func means(t *testing.T, b api.Block, core api.Core, gots []api.Got) deeds {
	t.Helper()
	was := ofBlock(t, b, core, gots)
	for regs := 3; regs <= 8; regs++ {
		c := lowered(t, b, regs)
		if is := ofCode(c, core, gots); is.left != was.left || !slices.Equal(is.moments, was.moments) {
			text, _ := ir.Text(b)
			t.Fatalf("%d:\n%+v, not\n%+v of\n%s", regs, is, was, text)
		}
	}
	return was
}

// P21.3: blocks by chance, of few values at one time and of many, on states by chance, whatever comes of what is wanted.
func TestMeansByChance(t *testing.T) {
	faults, guests, others, waits, hosts := 0, 0, 0, 0, 0
	eachByChance(2131, 6000, func(c chance, b api.Block) {
		d := means(t, b, c.core(b.EL), c.gots(len(b.Ops), 40))
		waits += len(d.moments)
		for _, m := range d.moments {
			if m.want.Kind == api.WHost {
				hosts++
			}
		}
		switch {
		case d.left.faulted:
			faults++
		case d.left.guest:
			guests++
		default:
			others++
		}
	})
	if faults < 750 || guests < 500 || others < 1500 || waits < 30000 || hosts < 4000 {
		t.Error(faults, guests, others, waits, hosts)
	}
}

// all lets each of the registers X10 on be one of the values 1 to many.
func all(lines []string, many int) []string {
	lines = slices.Clone(lines)
	for k := range many {
		lines = append(lines, "setx "+strconv.Itoa(10+k)+" "+strconv.Itoa(many-k))
	}
	return append(lines, "exit 68")
}

// small are the operations that the small blocks are made of: of the values 1 to 4.
func small() []string {
	lines := []string{"const 40", "getx 1", "getsp", "getf 1", "fence 15", "at 68"}
	for a := range 4 {
		name := strconv.Itoa(1 + a)
		lines = append(lines, "setx 1 "+name, "setsp "+name, "setf 1 "+name, "load "+name+" 0", "exitif "+name+" 4", "loadex "+name+" 2")
		for b := range 4 {
			both := name + " " + strconv.Itoa(1+b)
			lines = append(lines, "alu 2 "+both, "store "+both+" 4", "storeex "+both+" 0")
		}
	}
	return lines
}

// P21.3: all blocks of up to two small operations behind four values, all of which are used behind.
func TestAllSmallBlocks(t *testing.T) {
	core := api.Core{EL: 1, PC: 64, Z: true}
	for k := range core.X {
		core.X[k] = 8 * uint64(k)
	}
	head := []string{"getx 1", "getx 2", "getx 3", "getx 4"}
	gots := []api.Got{{Value: 48, Ok: true}, {Value: 56}, {}, {}}
	many := 0
	hold := func(lines ...string) {
		many++
		values := 0
		for _, line := range lines {
			if ir.Defines(op(line)) {
				values++
			}
		}
		b := block(all(lines, 4)...)
		means(t, b, core, gots)
		b.Ops = slices.Delete(b.Ops, len(b.Ops)-3, len(b.Ops)-1) // two of them are not used there
		means(t, b, core, gots)
		if values == len(lines) {
			means(t, block(all(lines, values)...), core, gots)
		}
	}
	hold(head...)
	for _, one := range small() {
		hold(append(head[:4:4], one)...)
		for _, two := range small() {
			hold(append(head[:4:4], one, two)...)
		}
	}
	if many < 5000 {
		t.Error(many)
	}
}

// P21.3: what is loaded and told to nobody takes no register from a value that is used behind, at once or later; so does a status that nobody asks for.
func TestUnusedValues(t *testing.T) {
	core := api.Core{EL: 1, PC: 64}
	for k := range core.X {
		core.X[k] = 8 * uint64(100+k)
	}
	for many := 1; many <= 10; many++ {
		var lines []string
		for k := range many {
			lines = append(lines, "getx "+strconv.Itoa(k))
		}
		for value := 1; value <= many; value++ {
			name := strconv.Itoa(value)
			for _, line := range []string{"load " + name + " 0", "load " + name + " 1", "loadex " + name + " 2", "storeex " + name + " 1 4", "storeex 1 " + name + " 0", "alu 1 1 " + name, "getx 5", "getsp", "getf 1", "const 77"} {
				for _, times := range []int{1, 2, 9} {
					with := append(slices.Clone(lines), slices.Repeat([]string{line}, times)...)
					gots := slices.Repeat([]api.Got{{Value: 5}}, times)
					d := means(t, block(all(with, many)...), core, gots)
					for k := range many {
						if d.left.core.X[10+k] != 8*uint64(100+many-k-1) {
							t.Fatal(line, d.left.core)
						}
					}
				}
			}
		}
	}
}

// P21.3: WHost, all written out: of releases and full fences one behind the other each has its own.
func TestHosts(t *testing.T) {
	core := api.Core{EL: 1, PC: 64}
	store := api.Want{Kind: api.WStore, Addr: 8, Value: 8, Rel: true}
	storeEx := api.Want{Kind: api.WStoreEx, Addr: 8, Value: 8, Rel: true}
	plain := api.Want{Kind: api.WStore, Addr: 8, Value: 8}
	host := api.Want{Kind: api.WHost}
	fence := func(kind int) api.Want { return api.Want{Kind: api.WFence, Fence: kind} }
	for _, row := range []struct {
		lines []string
		fault int // of which of the block's wants; -1: of none
		wants []api.Want
	}{
		{[]string{"fence 15"}, -1, []api.Want{host, fence(15)}},
		{[]string{"fence 15"}, 0, []api.Want{host, fence(15)}},
		{[]string{"fence 13", "fence 10", "fence 15"}, -1, []api.Want{fence(13), fence(10), host, fence(15)}},
		{[]string{"fence 15", "fence 15"}, -1, []api.Want{host, fence(15), host, fence(15)}},
		{[]string{"store 1 1 4"}, -1, []api.Want{store, host}},
		{[]string{"store 1 1 4"}, 0, []api.Want{store}},
		{[]string{"store 1 1 0"}, -1, []api.Want{plain}},
		{[]string{"storeex 1 1 4"}, -1, []api.Want{storeEx}},
		{[]string{"store 1 1 4", "fence 15"}, -1, []api.Want{store, host, host, fence(15)}},
		{[]string{"fence 15", "store 1 1 4"}, -1, []api.Want{host, fence(15), store, host}},
		{[]string{"store 1 1 4", "at 68", "store 1 1 4"}, -1, []api.Want{store, host, store, host}},
		{[]string{"store 1 1 4", "store 1 1 4"}, 1, []api.Want{store, host, store}},
	} {
		gots := make([]api.Got, 4)
		if row.fault >= 0 {
			gots[row.fault].Fault = api.Outside
		}
		b := block(append(append([]string{"const 8"}, row.lines...), "exit 72")...)
		means(t, b, core, gots)
		var wants []api.Want
		for _, m := range ofCode(lowered(t, b, 3), core, gots).moments {
			wants = append(wants, m.want)
		}
		if !slices.Equal(wants, row.wants) {
			t.Error(row.lines, row.fault, wants)
		}
	}
}

// P21.3: an address that is no multiple of 8, and a fault: the state is that of there, whatever was set ahead, and nothing behind.
func TestLeftEarly(t *testing.T) {
	core := api.Core{EL: 1, PC: 64}
	for _, access := range []string{"load 1 0", "store 1 1 0", "store 1 1 4", "loadex 1 2", "storeex 1 1 4"} {
		for addr := range 17 {
			for _, fault := range []int{0, api.Outside, -1} {
				b := block("const "+strconv.Itoa(addr), "setx 3 1", "at 68", access, "at 72", "const 99", "setx 3 6", "exit 76")
				if access[0] == 'l' || access[5] == 'e' {
					b.Ops[7].A = 6 // what is loaded, or told, is a value, too
				}
				d := means(t, b, core, []api.Got{{Fault: fault}})
				if faulted := addr%8 != 0 || fault != 0; d.left.faulted != faulted || (d.left.core.PC == 68) != faulted {
					t.Error(access, addr, fault, d)
				}
			}
		}
	}
}

// word is one of a few forms on few registers: sums, logic, choices, loads, stores, exclusives, releases, fences, branches.
func (c chance) word() uint32 {
	d, n, m := uint32(c.Intn(6)), uint32(c.Intn(6)), uint32(c.Intn(6))
	forms := []uint32{
		0xAB000000 | m<<16, 0xEB000000 | m<<16, 0xF1000000 | m<<10, 0x91000000 | m<<13, 0xCA000000 | m<<16, 0x9AC02000 | m<<16, 0x9A800400 | m<<16 | uint32(c.Intn(16))<<12, 0x9B000000 | m<<16 | d<<10,
		0xF9400000 | m<<10, 0xF9000000 | m<<10, 0xF8607800 | m<<16, 0xC8DFFC00, 0xC89FFC00, 0xC89FFC00, 0xC85F7C00, 0xC85FFC00, 0xC8007C00 | m<<16, 0xC800FC00 | m<<16,
	}
	others := []uint32{0xD5033BBF, 0xD50339BF, 0xD5033ABF, 0xD2800000 | m<<8 | d, 0x91000000 | n<<5 | 31 | m<<13, 0xB4000040 | d, 0x54000040 | uint32(c.Intn(16)), 0xD65F03C0, 0xD4000001, 0xD503201F}
	if c.Intn(5) == 0 {
		return others[c.Intn(len(others))]
	}
	return forms[c.Intn(len(forms))] | n<<5 | d
}

// P21.3, T6: what lift tells of words by chance, and what order makes of that.
func TestMeansOfLifted(t *testing.T) {
	c := chance{rand.New(rand.NewSource(2132)), 4, 20}
	ops, words, slots := 0, 0, 0
	for range 3000 {
		pc, el := c.Uint64()&^3, c.Intn(2)
		b, err := lift.Block(pc, el, func(addr uint64) (uint32, bool) { return c.word(), c.Intn(20) > 0 || addr == pc })
		if err != api.OK {
			t.Fatal(err)
		}
		less, err := order.All(b)
		if err != api.OK {
			t.Fatal(err)
		}
		for _, x := range []api.Block{b, less} {
			core := c.core(el)
			core.PC = pc
			means(t, x, core, c.gots(len(x.Ops), 60))
			slots += lowered(t, x, 3).Slots
		}
		ops, words = ops+len(b.Ops), words+b.Words
	}
	if ops < 50000 || words < 10000 || slots < 5000 {
		t.Error(ops, words, slots)
	}
}
