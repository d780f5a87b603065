package axiom_test

import (
	"math"
	"math/rand"
	"slices"
	"testing"

	"understudy/api"
	"understudy/axiom"
)

// names are those of all relations.
func names() []string {
	return []string{"po", "loc", "rf", "co", "fr", "rfi", "rfe", "coi", "coe", "fri", "fre", "addr", "data", "ctrl", "rmw", "obs", "dob", "aob", "bob", "ob"}
}

// odd are numbers that are no core, kind, place or fence, some of which look like one in their lowest bits.
func odd() []int {
	return []int{-1, -2, -8, 1 << 8, 1<<8 + 1, 1<<31 + 2, 1 << 32, 1<<32 + 1, 1<<32 + 15, 1<<62 + 3, -1 << 32, -1<<32 + 1, math.MaxInt, math.MinInt, math.MinInt + 1}
}

// model is a list of events in which all is looked for as the chapter's words have it.
type model []api.Event

func (m model) read(a int) bool   { return m[a].Kind == api.EvRead }
func (m model) write(a int) bool  { return m[a].Kind == api.EvWrite }
func (m model) access(a int) bool { return m.read(a) || m.write(a) }

// unnamed tells whether a field is not nothing that is not named for the kind.
func (m model) unnamed(a int) bool {
	e := m[a]
	acc := e.Addr != 0 || e.Value != 0 || e.Ex || e.Stamp != 0
	switch e.Kind {
	case api.EvRead:
		return e.Rel || e.Fence != 0
	case api.EvWrite:
		return e.Acq != 0 || e.Fence != 0
	case api.EvFence:
		return acc || e.Acq != 0 || e.Rel
	}
	return acc || e.Acq != 0 || e.Rel || e.Fence != 0
}

// wrongArg tells whether one of what makes an ErrArg is so of an event.
func (m model) wrongArg(a int) bool {
	e := m[a]
	for b := range m {
		if a != b && m[b].Core == e.Core && m[b].Po == e.Po {
			return true
		}
	}
	fence := e.Fence != 13 && e.Fence != 10 && e.Fence != 15
	return e.Core < 0 || e.Core > 7 || e.Po < 0 || e.Kind < 1 || e.Kind > 4 || m.unnamed(a) || e.Acq < 0 || e.Acq > 2 || e.Kind == api.EvFence && fence
}

// wrongRun tells whether one of what makes an ErrRun is so of an event.
func (m model) wrongRun(a int) bool {
	e := m[a]
	if m.write(a) && e.Stamp < 1 {
		return true
	}
	source := false
	for b, f := range m {
		if a == b || !m.access(a) || !m.access(b) || e.Addr != f.Addr || e.Stamp != f.Stamp {
			continue
		}
		if m.write(a) && m.write(b) {
			return true
		}
		if m.read(a) && m.write(b) {
			source = true
		}
		if m.read(a) && e.Value != f.Value && (m.write(b) || e.Stamp == 0) {
			return true
		}
	}
	if m.read(a) && e.Stamp != 0 && !source {
		return true
	}
	for _, po := range slices.Concat(e.Adr, e.Dat, e.Ctl) {
		there := false
		for b, f := range m {
			there = there || m.read(b) && f.Core == e.Core && f.Po == po
		}
		if !there || po >= e.Po {
			return true
		}
	}
	return false
}

func (m model) right() api.Errno {
	if len(m) > 64 {
		return api.ErrLong
	}
	for a := range m {
		if m.wrongArg(a) {
			return api.ErrArg
		}
	}
	for a := range m {
		if m.wrongRun(a) {
			return api.ErrRun
		}
	}
	return api.OK
}

// table tells of each two events whether they are a pair.
type table [][]bool

func (m model) such(holds func(a, b int) bool) table {
	t := make(table, len(m))
	for a := range t {
		t[a] = make([]bool, len(m))
		for b := range t {
			t[a][b] = holds(a, b)
		}
	}
	return t
}

func (t table) pairs() [][2]int {
	var out [][2]int
	for a := range t {
		for b := range t {
			if t[a][b] {
				out = append(out, [2]int{a, b})
			}
		}
	}
	return out
}

// reached are the events to which one or more pairs lead from a, found by walking.
func (t table) reached(a int) []bool {
	out := make([]bool, len(t))
	for todo := []int{a}; len(todo) > 0; todo = todo[1:] {
		for b, there := range t[todo[0]] {
			if there && !out[b] {
				out[b] = true
				todo = append(todo, b)
			}
		}
	}
	return out
}

func (t table) closed() table {
	out := make(table, len(t))
	for a := range t {
		out[a] = t.reached(a)
	}
	return out
}

func (t table) loop() bool {
	for a := range t {
		if t.reached(a)[a] {
			return true
		}
	}
	return false
}

// some tells whether there is an event of which this holds.
func (m model) some(holds func(k int) bool) bool {
	for k := range m {
		if holds(k) {
			return true
		}
	}
	return false
}

func (m model) one(a, b int) bool { return m[a].Core == m[b].Core }

func (m model) po(a, b int) bool { return m.one(a, b) && m[a].Po < m[b].Po }

func (m model) loc(a, b int) bool { return m.access(a) && m.access(b) && m[a].Addr == m[b].Addr }

// between tells whether k stands between two events of one core.
func (m model) between(a, k, b int) bool { return m.po(a, k) && m.po(k, b) }

func (m model) rmw(a, b int) bool {
	if !m.read(a) || !m[a].Ex || !m.write(b) || !m[b].Ex || !m.po(a, b) || m[a].Addr != m[b].Addr {
		return false
	}
	firstWrite := !m.some(func(k int) bool { return m.between(a, k, b) && m.write(k) && m[k].Ex })
	otherRead := m.some(func(k int) bool { return m.between(a, k, b) && m.read(k) && m[k].Ex })
	return firstWrite && !otherRead
}

// first are the relations that are told of two events alone, and rmw.
func (m model) first() map[string]table {
	rf := func(a, b int) bool { return m.write(a) && m.read(b) && m.loc(a, b) && m[a].Stamp == m[b].Stamp }
	co := func(a, b int) bool { return m.write(a) && m.write(b) && m.loc(a, b) && m[a].Stamp < m[b].Stamp }
	fr := func(a, b int) bool { return m.read(a) && m.write(b) && m.loc(a, b) && m[b].Stamp > m[a].Stamp }
	out := map[string]table{"po": m.such(m.po), "loc": m.such(m.loc), "rmw": m.such(m.rmw)}
	for name, holds := range map[string]func(a, b int) bool{"rf": rf, "co": co, "fr": fr} {
		out[name] = m.such(holds)
		out[name+"i"] = m.such(func(a, b int) bool { return holds(a, b) && m.one(a, b) })
		out[name+"e"] = m.such(func(a, b int) bool { return holds(a, b) && !m.one(a, b) })
	}
	for name, places := range map[string]func(b int) []int{
		"addr": func(b int) []int { return m[b].Adr },
		"data": func(b int) []int { return m[b].Dat },
		"ctrl": func(b int) []int { return m[b].Ctl },
	} {
		out[name] = m.such(func(a, b int) bool { return m.read(a) && m.one(a, b) && slices.Contains(places(b), m[a].Po) })
	}
	return out
}

func (m model) dob(in map[string]table) table {
	addr, data, ctrl, po, coi, rfi := in["addr"], in["data"], in["ctrl"], in["po"], in["coi"], in["rfi"]
	far := m.such(func(a, b int) bool { return m.some(func(k int) bool { return addr[a][k] && po[k][b] }) })
	return m.such(func(a, b int) bool {
		return addr[a][b] || data[a][b] || ctrl[a][b] && m.write(b) ||
			m.read(b) && m.some(func(k int) bool { return m[k].Kind == api.EvIsb && (ctrl[a][k] || far[a][k]) && po[k][b] }) ||
			far[a][b] && m.write(b) ||
			m.some(func(k int) bool { return (ctrl[a][k] || data[a][k]) && coi[k][b] }) ||
			m.some(func(k int) bool { return (addr[a][k] || data[a][k]) && rfi[k][b] })
	})
}

func (m model) aob(in map[string]table) table {
	rmw, rfi := in["rmw"], in["rfi"]
	return m.such(func(a, b int) bool {
		second := m.some(func(k int) bool { return rmw[k][a] })
		return rmw[a][b] || m.write(a) && second && rfi[a][b] && (m[b].Acq == 1 || m[b].Acq == 2)
	})
}

func (m model) bob(in map[string]table) table {
	po, coi := in["po"], in["coi"]
	fence := func(a, b int, kinds ...int) bool {
		return m.some(func(k int) bool {
			return po[a][k] && m[k].Kind == api.EvFence && slices.Contains(kinds, m[k].Fence) && po[k][b]
		})
	}
	gives := func(k int) bool { return m.write(k) && m[k].Rel }
	return m.such(func(a, b int) bool {
		return fence(a, b, api.FenceFull) ||
			gives(a) && po[a][b] && m.read(b) && m[b].Acq == 2 ||
			m.read(a) && fence(a, b, api.FenceLd, api.FenceFull) ||
			m.read(a) && m[a].Acq != 0 && po[a][b] ||
			m.write(a) && fence(a, b, api.FenceSt, api.FenceFull) && m.write(b) ||
			po[a][b] && gives(b) ||
			m.some(func(k int) bool { return po[a][k] && gives(k) && coi[k][b] })
	})
}

// joined has the pairs of all of these.
func (m model) joined(list ...table) table {
	return m.such(func(a, b int) bool {
		return slices.ContainsFunc(list, func(t table) bool { return t[a][b] })
	})
}

// relations are all of them by their names.
func (m model) relations() map[string]table {
	in := m.first()
	in["obs"] = m.joined(in["rfe"], in["fre"], in["coe"])
	in["dob"], in["aob"], in["bob"] = m.dob(in), m.aob(in), m.bob(in)
	in["ob"] = m.joined(in["obs"], in["dob"], in["aob"], in["bob"]).closed()
	return in
}

func (m model) verdict(in map[string]table) axiom.Verdict {
	near := m.such(func(a, b int) bool { return m.po(a, b) && m.loc(a, b) })
	torn := false
	for _, p := range in["rmw"].pairs() {
		torn = torn || m.some(func(k int) bool { return in["fre"][p[0]][k] && in["coe"][k][p[1]] })
	}
	return axiom.Verdict{
		Internal: !m.joined(near, in["rf"], in["co"], in["fr"]).loop(),
		External: !in["ob"].loop(),
		Atomic:   !torn,
	}
}

// same holds all calls of a list that is right against the model, and tells the verdict.
func same(t *testing.T, l []api.Event) axiom.Verdict {
	t.Helper()
	if e := axiom.Right(l); e != api.OK {
		t.Fatal("Right", e, l)
	}
	in := model(l).relations()
	for _, name := range names() {
		if p, e := axiom.Relation(l, name); e != api.OK || !slices.Equal(p, in[name].pairs()) {
			t.Fatal(name, e, p, in[name].pairs(), l)
		}
	}
	want := model(l).verdict(in)
	if v, e := axiom.Check(l); e != api.OK || v != want {
		t.Fatal("Check", e, v, want, l)
	}
	return want
}

// refused holds all calls of a list that is not right against the error, with nothing beside it.
func refused(t *testing.T, want api.Errno, l []api.Event) {
	t.Helper()
	if e := axiom.Right(l); e != want {
		t.Fatal("Right", e, want, l)
	}
	if v, e := axiom.Check(l); e != want || v != (axiom.Verdict{}) {
		t.Fatal("Check", v, e, want, l)
	}
	for _, name := range append(names(), "", "x", "Po") {
		if p, e := axiom.Relation(l, name); e != want || len(p) != 0 {
			t.Fatal(name, p, e, want, l)
		}
	}
}

// check is the verdict of a list that is right.
func check(t *testing.T, l []api.Event) axiom.Verdict {
	t.Helper()
	v, e := axiom.Check(l)
	if e != api.OK {
		t.Fatal(e, l)
	}
	return v
}

// pick is one of a list by chance.
func pick[T any](r *rand.Rand, list ...T) T { return list[r.Intn(len(list))] }

// shape is how a list by chance is made: how many cores and addresses, and of ten events how many are accesses, and how many of these are more than plain.
type shape struct{ cores, addrs, access, marked int }

// bare is an event by chance without what it shares with others.
func (s shape) bare(r *rand.Rand) api.Event {
	if r.Intn(10) >= s.access {
		return pick(r, api.Event{Kind: api.EvIsb}, api.Event{Kind: api.EvFence, Fence: pick(r, api.FenceLd, api.FenceSt, api.FenceFull)})
	}
	e := api.Event{Kind: pick(r, api.EvRead, api.EvWrite), Addr: uint64(r.Intn(s.addrs)) * 8}
	if r.Intn(10) < s.marked {
		e.Ex = r.Intn(2) == 0
		if e.Kind == api.EvRead {
			e.Acq = r.Intn(3)
		} else {
			e.Rel = r.Intn(2) == 0
		}
	}
	return e
}

// placed gives events cores and places, not in the order of the list, with some places left out.
func (s shape) placed(r *rand.Rand, l []api.Event) {
	places := r.Perm(2 * len(l))
	for k := range l {
		l[k].Core, l[k].Po = r.Intn(s.cores), places[k]
	}
}

// stamped gives the writes Stamps, which those of two addresses may share, and Values, and the reads those of a write, or of the first bytes.
func stamped(r *rand.Rand, l []api.Event) {
	last := map[uint64]int{}
	for _, k := range r.Perm(len(l)) {
		if l[k].Kind == api.EvWrite {
			last[l[k].Addr] += 1 + r.Intn(2)
			l[k].Stamp, l[k].Value = last[l[k].Addr], uint64(r.Intn(3))
		}
	}
	for k := range l {
		if l[k].Kind != api.EvRead {
			continue
		}
		l[k].Value = l[k].Addr / 8 % 2
		from := l[r.Intn(len(l))]
		if from.Kind == api.EvWrite && from.Addr == l[k].Addr {
			l[k].Value, l[k].Stamp = from.Value, from.Stamp
		}
	}
}

// someReads are places of reads ahead of an event of its core, now and then one of them twice.
func someReads(r *rand.Rand, l []api.Event, b int) []int {
	var out []int
	for _, e := range l {
		if e.Kind == api.EvRead && e.Core == l[b].Core && e.Po < l[b].Po && r.Intn(4) == 0 {
			out = append(out, e.Po)
			if r.Intn(3) == 0 {
				out = append(out, e.Po)
			}
		}
	}
	return out
}

// chance is a list by chance that is right.
func (s shape) chance(r *rand.Rand, n int) []api.Event {
	l := make([]api.Event, n)
	for k := range l {
		l[k] = s.bare(r)
	}
	s.placed(r, l)
	stamped(r, l)
	for k := range l {
		for _, list := range []*[]int{&l[k].Adr, &l[k].Dat, &l[k].Ctl} {
			if r.Intn(4) == 0 {
				*list = someReads(r, l, k)
			}
		}
	}
	return l
}

// copied is a list that shares nothing with another one.
func copied(l []api.Event) []api.Event {
	out := slices.Clone(l)
	for k := range out {
		out[k].Adr, out[k].Dat, out[k].Ctl = slices.Clone(l[k].Adr), slices.Clone(l[k].Dat), slices.Clone(l[k].Ctl)
	}
	return out
}
