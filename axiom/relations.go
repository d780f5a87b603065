package axiom

import "understudy/rel"

// named is the method that finds the relation of a name; nil, if there is none.
func (x run) named(name string) func() *rel.Rel {
	type relation struct {
		name string
		find func() *rel.Rel
	}
	for _, r := range [...]relation{
		{"po", x.po}, {"loc", x.loc}, {"rf", x.rf}, {"co", x.co}, {"fr", x.fr},
		{"rfi", x.rfi}, {"rfe", x.rfe}, {"coi", x.coi}, {"coe", x.coe}, {"fri", x.fri}, {"fre", x.fre},
		{"addr", x.addr}, {"data", x.data}, {"ctrl", x.ctrl}, {"rmw", x.rmw},
		{"obs", x.obs}, {"dob", x.dob}, {"aob", x.aob}, {"bob", x.bob}, {"ob", x.ob},
	} {
		if r.name == name {
			return r.find
		}
	}
	return nil
}

func (x run) po() *rel.Rel {
	return x.such(func(a, b int) bool { return x.oneCore(a, b) && x[a].Po < x[b].Po })
}

func (x run) loc() *rel.Rel { return x.such(x.oneAddress) }

func (x run) rf() *rel.Rel {
	return x.such(func(a, b int) bool { return x.writes(a) && x.reads(b) && x.oneStamp(a, b) })
}

func (x run) co() *rel.Rel { return chain(x.only(x.writes), x.older()) }
func (x run) fr() *rel.Rel { return chain(x.only(x.reads), x.older()) }

// older has the accesses with the writes of their address that have a greater Stamp.
func (x run) older() *rel.Rel {
	return x.such(func(a, b int) bool { return x.writes(b) && x.oneAddress(a, b) && x[a].Stamp < x[b].Stamp })
}

func (x run) rfi() *rel.Rel { return x.inside(x.rf()) }
func (x run) rfe() *rel.Rel { return x.across(x.rf()) }
func (x run) coi() *rel.Rel { return x.inside(x.co()) }
func (x run) coe() *rel.Rel { return x.across(x.co()) }
func (x run) fri() *rel.Rel { return x.inside(x.fr()) }
func (x run) fre() *rel.Rel { return x.across(x.fr()) }

// inside has the pairs of one core.
func (x run) inside(r *rel.Rel) *rel.Rel { return both(r, x.such(x.oneCore)) }

// across has the pairs of two cores.
func (x run) across(r *rel.Rel) *rel.Rel { return without(r, x.such(x.oneCore)) }

func (x run) addr() *rel.Rel { return x.depends(func(b int) []int { return x[b].Adr }) }
func (x run) data() *rel.Rel { return x.depends(func(b int) []int { return x[b].Dat }) }
func (x run) ctrl() *rel.Rel { return x.depends(func(b int) []int { return x[b].Ctl }) }

// depends has the reads at each event's places with it.
func (x run) depends(places func(b int) []int) *rel.Rel {
	r := x.none()
	for b := range x {
		for _, po := range places(b) {
			if a, there := x.readAt(x[b].Core, po); there {
				r.Add(a, b)
			}
		}
	}
	return r
}

func (x run) rmw() *rel.Rel {
	ex := x.only(x.exclusive)
	behind := chain(ex, x.po(), ex)
	// An exclusive read between is forbidden, and an exclusive write between would be the first one: so there is nothing exclusive between.
	next := without(behind, chain(behind, behind))
	return both(chain(x.only(x.reads), next, x.only(x.writes)), x.loc())
}

// obs is what one core sees of another one's writes.
func (x run) obs() *rel.Rel { return union(x.rfe(), x.fre(), x.coe()) }

// dob is what is ordered because it hangs on what was read.
func (x run) dob() *rel.Rel {
	po, addr, data, ctrl := x.po(), x.addr(), x.data(), x.ctrl()
	reads, writes := x.only(x.reads), x.only(x.writes)
	return union(
		addr,
		data,
		chain(ctrl, writes),
		chain(union(ctrl, chain(addr, po)), x.only(x.isb), po, reads),
		chain(addr, po, writes),
		chain(union(ctrl, data), x.coi()),
		chain(union(addr, data), x.rfi()),
	)
}

// aob is what exclusive accesses order.
func (x run) aob() *rel.Rel {
	rmw := x.rmw()
	// A read has one write at most, so that the way back and there again is that of a write to itself.
	second := chain(rmw.Turned(), rmw)
	return union(rmw, chain(second, x.rfi(), x.only(x.takes)))
}

// bob is what fences order, and accesses that acquire or release.
func (x run) bob() *rel.Rel {
	po := x.po()
	reads, writes, releases := x.only(x.reads), x.only(x.writes), x.only(x.releases)
	return union(
		chain(po, x.only(x.full), po),
		chain(releases, po, x.only(x.acquires)),
		chain(reads, po, x.only(x.ld), po),
		chain(x.only(x.takes), po),
		chain(writes, po, x.only(x.st), po, writes),
		chain(po, releases),
		chain(po, releases, x.coi()),
	)
}

// ob is what all cores see in order.
func (x run) ob() *rel.Rel { return union(x.obs(), x.dob(), x.aob(), x.bob()).Closed() }
