// Package bits is layer 1: see shared/doc/01-bits.md.
package bits

import (
	count "math/bits"

	"understudy/api"
)

// Field is some bits of a word, Put the word with these bits.
func Field(word uint32, at, many int) (uint32, api.Errno) {
	if !inWord(at, many) {
		return 0, api.ErrArg
	}
	return word >> at & lowWord(many), api.OK
}

func Put(word uint32, at, many int, value uint32) (uint32, api.Errno) {
	if !inWord(at, many) {
		return 0, api.ErrArg
	}
	if value > lowWord(many) {
		return 0, api.ErrBits
	}
	return word&^(lowWord(many)<<at) | value<<at, api.OK
}

// inWord does not add both, as their sum may wrap.
func inWord(at, many int) bool {
	return at >= 0 && many >= 1 && many <= 32 && at <= 32-many
}

// lowWord leans on the wrap: of 32 bits the shift leaves 0, and 1 less than that is all ones.
func lowWord(many int) uint32 {
	return uint32(1)<<many - 1
}

// Signed is a number whose highest bit of many is its sign, Ror many bits turned to the right.
func Signed(value uint64, many int) (uint64, api.Errno) {
	if !inNumber(many) {
		return 0, api.ErrArg
	}
	above := 64 - many
	return uint64(int64(value<<above) >> above), api.OK
}

func Ror(value uint64, by, many int) (uint64, api.Errno) {
	if !inNumber(many) || by < 0 {
		return 0, api.ErrArg
	}
	if value > low(many) {
		return 0, api.ErrBits
	}
	return turn(value, by, many), api.OK
}

func inNumber(many int) bool {
	return many >= 1 && many <= 64
}

// low leans on the wrap, as lowWord does.
func low(many int) uint64 {
	return uint64(1)<<many - 1
}

// turn takes what has no bit many or above; many turns by one are none, so that only the rest counts.
func turn(value uint64, by, many int) uint64 {
	by %= many
	return (value>>by | value<<(many-by)) & low(many)
}

// Mask is the mask of a logical immediate, Parts what a mask is made of.
func Mask(n, immr, imms int) (uint64, api.Errno) {
	if n < 0 || n > 1 || !sixBits(immr) || !sixBits(imms) {
		return 0, api.ErrArg
	}
	size := sizeOf(n, imms)
	if size < 2 || imms%size == size-1 {
		return 0, api.ErrBits
	}
	ones := low(imms%size + 1)
	return again(turn(ones, immr%size, size), size), api.OK
}

func Parts(mask uint64) (int, int, int, api.Errno) {
	n, immr, imms, err := 0, 0, 0, api.ErrBits
sizes:
	for size := 2; size <= 64; size *= 2 {
		piece := mask & low(size)
		ones := count.OnesCount64(piece)
		if again(piece, size) != mask || ones == 0 || ones == size {
			continue
		}
		for r := range size {
			if turn(low(ones), r, size) == piece {
				n, immr, imms = form(size, r, ones-1)
				err = api.OK
				break sizes
			}
		}
	}
	return n, immr, imms, err
}

func sixBits(number int) bool {
	return number >= 0 && number <= 63
}

// sizeOf is below 2 where imms leaves no room for a size.
func sizeOf(n, imms int) int {
	if n == 1 {
		return 64
	}
	size := 32
	for size > 63-imms {
		size /= 2
	}
	return size
}

// form tells the size by n alone, if it is 64, else by the bits of imms above those of s: all ones down to a 0.
func form(size, r, s int) (int, int, int) {
	if size == 64 {
		return 1, r, s
	}
	return 0, r, 64 - 2*size + s
}

// again doubles the piece, as 64 is a size times a power of 2.
func again(piece uint64, size int) uint64 {
	for ; size < 64; size *= 2 {
		piece |= piece << size
	}
	return piece
}
