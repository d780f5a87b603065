package alu

import (
	"understudy/api"
	"understudy/bits"
)

// number has a method for each kind of reckoning, all of one shape, so that a kind finds its own as a method expression.
type number uint64

// wayOf takes a kind that there is.
func wayOf(kind int) func(a, b number) number {
	ways := [api.ASlt + 1]func(a, b number) number{
		api.AAdd:  number.plus,
		api.ASub:  number.minus,
		api.AAnd:  number.and,
		api.AOr:   number.or,
		api.AXor:  number.xor,
		api.AMul:  number.times,
		api.AUdiv: number.by,
		api.ASdiv: number.bySigned,
		api.AShl:  number.left,
		api.AShr:  number.right,
		api.ASar:  number.rightSigned,
		api.ARor:  number.turned,
		api.AEq:   number.is,
		api.AUlt:  number.below,
		api.ASlt:  number.belowSigned,
	}
	return ways[kind]
}

func (a number) plus(b number) number  { return a + b }
func (a number) minus(b number) number { return a - b }
func (a number) times(b number) number { return a * b }

func (a number) and(b number) number { return a & b }
func (a number) or(b number) number  { return a | b }
func (a number) xor(b number) number { return a ^ b }

func (a number) by(b number) number {
	if b == 0 {
		return 0
	}
	return a / b
}

// bySigned leans on the language, whose -2^63 by -1 wraps round to -2^63.
func (a number) bySigned(b number) number {
	if b == 0 {
		return 0
	}
	return number(int64(a) / int64(b))
}

func (a number) left(b number) number        { return a << (b % 64) }
func (a number) right(b number) number       { return a >> (b % 64) }
func (a number) rightSigned(b number) number { return number(int64(a) >> (b % 64)) }

// turned has no error to tell: any number has 64 bits, and none is turned by less than 0.
func (a number) turned(b number) number {
	value, _ := bits.Ror(uint64(a), int(b%64), 64)
	return number(value)
}

func (a number) is(b number) number          { return oneIf(a == b) }
func (a number) below(b number) number       { return oneIf(a < b) }
func (a number) belowSigned(b number) number { return oneIf(int64(a) < int64(b)) }

func oneIf(holds bool) number {
	if holds {
		return 1
	}
	return 0
}
