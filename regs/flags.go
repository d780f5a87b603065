package regs

import "understudy/api"

// Where the flags stand in a number.
const (
	bitN = uint64(1) << 31
	bitZ = uint64(1) << 30
	bitC = uint64(1) << 29
	bitV = uint64(1) << 28
)

// Nzcv is the flags in bits 31 to 28, SetNzcv the state with such flags, Holds whether a condition holds.
func Nzcv(c api.Core) uint64 {
	return bitIf(c.N, bitN) | bitIf(c.Z, bitZ) | bitIf(c.C, bitC) | bitIf(c.V, bitV)
}

func bitIf(on bool, bit uint64) uint64 {
	if on {
		return bit
	}
	return 0
}

func SetNzcv(c api.Core, value uint64) api.Core {
	c.N, c.Z = value&bitN != 0, value&bitZ != 0
	c.C, c.V = value&bitC != 0, value&bitV != 0
	return c
}

func Holds(c api.Core, cond int) (bool, api.Errno) {
	if cond < 0 || cond > 15 {
		return false, api.ErrArg
	}
	same := c.N == c.V
	pairs := [8]bool{c.Z, c.C, c.N, c.V, c.C && !c.Z, same, !c.Z && same, true}
	turned := cond%2 == 1 && cond != 15
	return pairs[cond/2] != turned, api.OK
}
