package order

import "understudy/api"

// doDiffer tells of two addresses whether they are known to.
func doDiffer(x, y *item) bool {
	return areOtherNumbers(x, y) || areOtherSums(x, y) || isBeyond(x, y) || isBeyond(y, x)
}

func areOtherNumbers(x, y *item) bool {
	return x.op.Kind == api.IConst && y.op.Kind == api.IConst && x.op.Imm != y.op.Imm
}

// areOtherSums: of one value, with two numbers that differ.
func areOtherSums(x, y *item) bool {
	return x.isSum() && y.isSum() && x.a == y.a && areOtherNumbers(x.b, y.b)
}

// isBeyond tells whether the first one is the second one and a number.
func isBeyond(x, y *item) bool {
	return x.isSum() && x.a == y && x.b.op.Kind == api.IConst && x.b.op.Imm != 0
}

func (i *item) isSum() bool {
	return i.op.Kind == api.IAlu && i.op.R == api.AAdd
}
