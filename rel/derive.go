package rel

import "understudy/api"

// Union has the pairs of one or the other.
func (r *Rel) Union(s *Rel) (*Rel, api.Errno) {
	return r.matched(s, func(a int) set { return r.rows[a] | s.rows[a] })
}

// Inter has the pairs of both.
func (r *Rel) Inter(s *Rel) (*Rel, api.Errno) {
	return r.matched(s, func(a int) set { return r.rows[a] & s.rows[a] })
}

// Minus has the pairs of r that s has not.
func (r *Rel) Minus(s *Rel) (*Rel, api.Errno) {
	return r.matched(s, func(a int) set { return r.rows[a] &^ s.rows[a] })
}

// Then has a pair of each one of r and one of s that begins where it ends.
func (r *Rel) Then(s *Rel) (*Rel, api.Errno) {
	return r.matched(s, func(a int) set { return s.from(r.rows[a]) })
}

// matched is the relation of these rows, if both are of one size.
func (r *Rel) matched(s *Rel, row func(a int) set) (*Rel, api.Errno) {
	if r.size != s.size {
		return nil, api.ErrRel
	}
	out := &Rel{size: r.size}
	for a := range r.size {
		out.rows[a] = row(a)
	}
	return out, api.OK
}

// from are the things to which one pair leads from one of these.
func (r *Rel) from(begin set) set {
	var out set
	for a := range begin.each {
		out |= r.rows[a]
	}
	return out
}

// Turned has each pair the other way round.
func (r *Rel) Turned() *Rel {
	out := &Rel{size: r.size}
	for a, row := range r.rows {
		for b := range row.each {
			out.rows[b] = out.rows[b].with(a)
		}
	}
	return out
}

// Closed has a pair wherever one or more pairs, one behind the other, lead from one thing to another.
func (r *Rel) Closed() *Rel {
	out := *r
	// Once a thing had its turn as the one between, every way whose inner things are among those that had theirs is a pair.
	for between := range r.size {
		for a := range r.size {
			if out.rows[a].has(between) {
				out.rows[a] |= out.rows[between]
			}
		}
	}
	return &out
}

// Kept has the pairs from some, to some.
func (r *Rel) Kept(from, to func(int) bool) *Rel {
	out := &Rel{size: r.size}
	// The pairs are taken ahead, as the functions might add some to r.
	for _, p := range r.Pairs() {
		// Both are asked of each pair, whatever the first one says.
		begins, ends := says(from, p[0]), says(to, p[1])
		if begins && ends {
			out.rows[p[0]] = out.rows[p[0]].with(p[1])
		}
	}
	return out
}

// says asks a function of a thing. One that panics has not said that it is true; its panic ends here, as no call panics.
func says(f func(int) bool, thing int) (yes bool) {
	if f == nil {
		return true
	}
	defer func() {
		if recover() != nil {
			yes = false
		}
	}()
	return f(thing)
}
