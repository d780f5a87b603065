package order

import (
	"slices"

	"understudy/api"
	"understudy/ir"
)

// rule tells what is to be done with the operation at a place; nil: the rule can't be done there.
type rule func(l *list, at int) func()

// doAll does what the rules tell as long as there is something.
func (l *list) doAll(rules []rule) {
	for do := l.first(rules); do != nil; do = l.first(rules) {
		do()
	}
}

// first is what the rules tell of the first place of which they tell something; at one place they are asked in their order.
func (l *list) first(rules []rule) (do func()) {
search:
	for at := range l.items {
		for _, tell := range rules {
			if do = tell(l, at); do != nil {
				break search
			}
		}
	}
	return do
}

// mergeFences lets the next fence be this one, too.
func (l *list) mergeFences(at int) func() {
	fence := l.items[at]
	if fence.op.Kind != api.IFence {
		return nil
	}
	other := l.items[l.next(at, isFenceOrLeaves)]
	if other.op.Kind != api.IFence {
		return nil
	}
	return func() {
		other.op.R |= fence.op.R
		l.take(fence)
	}
}

// loadAgain lets a load go whose value is known.
func (l *list) loadAgain(at int) func() {
	load := l.items[at]
	if !load.isPlain(api.ILoad) {
		return nil
	}
	value := l.known(at)
	if value == nil {
		return nil
	}
	return func() {
		l.useInstead(load, value)
		l.take(load)
	}
}

// known is the value that the access at a place finds at its address, by what stands ahead of it; nil: nobody can tell.
func (l *list) known(at int) *item {
	address := l.items[at].a
	for _, i := range slices.Backward(l.items[:at]) {
		switch {
		case i.op.Kind == api.ILoad && i.a == address:
			return i
		case i.op.Kind == api.IStore && i.a == address:
			return i.b
		case forgets(i.op):
			return nil
		}
	}
	return nil
}

// storeOver lets a store go that the next one stores over.
func (l *list) storeOver(at int) func() {
	store := l.items[at]
	if !store.isPlain(api.IStore) {
		return nil
	}
	next := l.next(at, isLoud)
	if over := l.items[next]; !over.isPlain(api.IStore) || over.a != store.a {
		return nil
	}
	return func() {
		l.pullAhead(at, next)
		l.take(store)
	}
}

// loadAhead lets the next load stand ahead of a store to elsewhere.
func (l *list) loadAhead(at int) func() {
	store := l.items[at]
	if !store.isPlain(api.IStore) {
		return nil
	}
	next := l.next(at, isLoud)
	if load := l.items[next]; !load.isPlain(api.ILoad) || !doDiffer(store.a, load.a) {
		return nil
	}
	return func() { l.pullAhead(at, next) }
}

func isFenceOrLeaves(o api.Op) bool {
	return o.Kind == api.IFence || ir.Leaves(o)
}

// isLoud tells of an operation whether more hangs on its place than a value and the PC.
func isLoud(o api.Op) bool {
	switch o.Kind {
	case api.IConst, api.IGetX, api.IGetSP, api.IGetF, api.IAlu, api.IAt:
		return false
	}
	return true
}

// forgets tells whether behind an operation nobody knows what memory has, but at its own address: it may change it, or
// the changes of others are to be seen behind it.
func forgets(o api.Op) bool {
	switch o.Kind {
	case api.IStore, api.IStoreEx, api.ILoadEx, api.IFence:
		return true
	}
	return o.Kind == api.ILoad && o.Order != api.OPlain
}
