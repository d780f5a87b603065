package ir_test

import (
	"math/rand"
	"testing"

	"understudy/api"
)

// follow runs a block beside the model, told the same, and asks at each moment that both are one; how often it waited, and how it was left.
func follow(t *testing.T, b api.Block, c api.Core, answer func() api.Got) (int, end) {
	t.Helper()
	r := begin(t, b, c)
	shows(t, r, end{core: c})
	waited := 0
	last := play(b, c, func(m moment) api.Got {
		waited++
		if e := r.Take(api.Got{Fault: 1}); e != api.ErrArg {
			t.Fatal("Take ahead of Next:", e)
		}
		for range 1 + waited%2 {
			wants(t, r, m.want)
			shows(t, r, end{core: m.core})
		}
		got := answer()
		takes(t, r, got)
		return got
	})
	ends(t, r, last)
	return waited, last
}

// P16.2, P16.3: blocks by chance mean what the chapter says, on states by chance, and whatever came of what was wanted.
func TestMeaningByChance(t *testing.T) {
	r := rand.New(rand.NewSource(162))
	faults, guests, others, waits := 0, 0, 0, 0
	for k := range 30000 {
		many := 2 + r.Intn(30)
		if k%1000 == 0 {
			many = api.MaxOps
		}
		b := byChance(r, many)
		waited, last := follow(t, b, anyCore(r, b.EL), func() api.Got { return anyGot(r) })
		waits += waited
		switch {
		case last.faulted:
			faults++
		case last.guest:
			guests++
		default:
			others++
		}
	}
	if faults < 1000 || guests < 1000 || others < 1000 || waits < 30000 {
		t.Error(faults, guests, others, waits)
	}
}

// P16.5: a run waits at most as often as there are accesses and fences; with none of them it is left at once.
func TestRunEnds(t *testing.T) {
	r := rand.New(rand.NewSource(165))
	for range 3000 {
		b := byChance(r, 2+r.Intn(60))
		most := 0
		for _, o := range b.Ops {
			if o.Kind == api.IFence || o.Kind >= api.ILoad && o.Kind <= api.IStoreEx {
				most++
			}
		}
		run, times := begin(t, b, anyCore(r, b.EL)), 0
		for _, ok := run.Next(); ok; _, ok = run.Next() {
			times++
			takes(t, run, anyGot(r))
		}
		if times > most {
			t.Fatal(times, most)
		}
	}
	all := block(number(8))
	for len(all.Ops) < api.MaxOps-1 {
		all.Ops = append(all.Ops, store(1, 1, 0))
	}
	all.Ops = append(all.Ops, exit(4))
	if waited, _ := follow(t, all, full(), func() api.Got { return api.Got{} }); waited != api.MaxOps-3 {
		t.Error(waited)
	}
}

// P16.5, P4: two runs of one block, told the same, turn by turn, are the same; two that are told otherwise do not disturb each other.
func TestRunsAreApart(t *testing.T) {
	r := rand.New(rand.NewSource(166))
	for range 2000 {
		b := byChance(r, 2+r.Intn(40))
		c := anyCore(r, b.EL)
		one, two, other := begin(t, b, c), begin(t, b, c), begin(t, b, anyCore(r, b.EL))
		for {
			w, ok := one.Next()
			v, there := two.Next()
			other.Next()
			if w != v || ok != there || one.Core() != two.Core() || one.Faulted() != two.Faulted() {
				t.Fatal(w, v, ok, there)
			}
			if !ok {
				break
			}
			got := anyGot(r)
			takes(t, one, got)
			other.Take(anyGot(r))
			takes(t, two, got)
		}
	}
}

// P16.5: what no ISetX, ISetSP or ISetF of the block names stays; the PC alone changes by itself.
func TestWhatStays(t *testing.T) {
	r := rand.New(rand.NewSource(167))
	for range 3000 {
		b := byChance(r, 2+r.Intn(30))
		first := anyCore(r, b.EL)
		run := begin(t, b, first)
		for _, ok := run.Next(); ok; _, ok = run.Next() {
			run.Take(anyGot(r))
		}
		last := run.Core()
		for _, o := range b.Ops {
			switch o.Kind {
			case api.ISetX:
				last.X[o.R] = first.X[o.R]
			case api.ISetSP:
				last.SP[b.EL] = first.SP[b.EL]
			case api.ISetF:
				was := []bool{first.N, first.Z, first.C, first.V}[o.R]
				*[]*bool{&last.N, &last.Z, &last.C, &last.V}[o.R] = was
			}
		}
		last.PC = first.PC
		if last != first {
			t.Fatalf("%+v\nnot %+v", last, first)
		}
	}
}

// P16.2: the chapter's example at the addresses 0 to 63: it is left by a fault at those that are no multiple of 8.
func TestExampleOnStates(t *testing.T) {
	for addr := range uint64(64) {
		waited, last := follow(t, example(), withX(1, addr), func() api.Got { return api.Got{Value: addr + 1} })
		if isEight := addr%8 == 0; (waited == 1) != isEight || last.faulted == isEight {
			t.Error(addr, waited, last)
		}
	}
}
