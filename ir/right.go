package ir

import "understudy/api"

// isHeadRight asks all of a block that is not a matter of one operation and those ahead of it.
func isHeadRight(b api.Block) bool {
	switch {
	case b.PC%4 != 0, b.Words < 1, b.Words > api.MaxBlock, b.EL != 0 && b.EL != 1:
		return false
	case len(b.Ops) < 1, len(b.Ops) > api.MaxOps:
		return false
	}
	return b.Ops[0] == api.Op{Kind: api.IAt, Imm: b.PC}
}

func areOpsRight(ops []api.Op) bool {
	for k, o := range ops {
		isLast := k == len(ops)-1
		if shapeOf(o.Kind).has(anEnd) != isLast || !isOpRight(o) || !areDefined(uses(o), ops[:k]) {
			return false
		}
	}
	return true
}

// isOpRight does not ask which values there are.
func isOpRight(o api.Op) bool {
	s := shapeOf(o.Kind)
	switch {
	case !s.has(fieldR) && o.R != 0, !s.has(fieldA) && o.A != 0, !s.has(fieldB) && o.B != 0:
		return false
	case !s.has(fieldOrder) && o.Order != 0, !s.has(fieldImm) && o.Imm != 0:
		return false
	}
	return isInRange(o)
}

// isInRange asks of the fields R, Order and Imm whether the kind may have such ones.
func isInRange(o api.Op) bool {
	switch o.Kind {
	case api.IGetX, api.ISetX:
		return o.R >= 0 && o.R <= 30
	case api.IGetF, api.ISetF:
		return o.R >= 0 && o.R <= 3
	case api.IAlu:
		return o.R >= api.AAdd && o.R <= api.ASlt
	case api.IFence:
		return o.R == api.FenceLd || o.R == api.FenceSt || o.R == api.FenceFull
	case api.ILoad:
		return o.Order == api.OPlain || o.Order == api.OAcqPC || o.Order == api.OAcq
	case api.ILoadEx:
		return o.Order == api.OPlain || o.Order == api.OAcq
	case api.IStore, api.IStoreEx:
		return o.Order == api.OPlain || o.Order == api.ORel
	case api.IAt:
		return o.Imm%4 == 0
	case api.IGuest:
		return o.Imm < 1<<32
	}
	return true
}

func areDefined(places []int, ahead []api.Op) bool {
	for _, place := range places {
		if place < 0 || place >= len(ahead) || !shapeOf(ahead[place].Kind).has(aValue) {
			return false
		}
	}
	return true
}
