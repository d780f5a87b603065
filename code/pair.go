package code

import (
	"understudy/api"
	"understudy/bits"
)

// pair is a word and its instruction, while fields go from the one to the other.
type pair struct {
	word   uint32
	insn   api.Insn
	laying bool // into the word, else out of it
}

// cross answers what the word then has there: who lays a number that fits gets it back, so that
// those who call it set the instruction's field by the answer, whichever way it goes.
// All places are such that bits takes them.
func (p *pair) cross(number, at, many int) int {
	if p.laying {
		lowest, _ := bits.Field(uint32(number), 0, many)
		p.word, _ = bits.Put(p.word, at, many, lowest)
	}
	got, _ := bits.Field(p.word, at, many)
	return int(got)
}

// signed has the highest of many bits as the sign.
func signed(number, many int) int {
	all, _ := bits.Signed(uint64(number), many)
	return int(all)
}

func (p *pair) number(number *int, unit, at, many int) {
	*number = p.cross(*number/unit, at, many) * unit
}

func (p *pair) register(number *int, at int) {
	p.number(number, 1, at, 5)
}

func (p *pair) sign(is *bool, at int) {
	number := 0
	if *is {
		number = 1
	}
	*is = p.cross(number, at, 1) == 1
}

// words is how far a branch goes, either way.
func (p *pair) words(at, many int) {
	p.insn.Imm = signed(p.cross(p.insn.Imm/4, at, many), many) * 4
}

func (p *pair) sum() {
	p.sign(&p.insn.Minus, 30)
	p.sign(&p.insn.Flags, 29)
}

// logic has 3 for the Sub 0 with Flags, as no other Sub has them.
func (p *pair) logic() {
	number := p.insn.Sub
	if p.insn.Flags {
		number = 3
	}
	number = p.cross(number, 29, 2)
	p.insn.Sub, p.insn.Flags = number%3, number == 3
}

func (p *pair) shifted() {
	p.number(&p.insn.Shift, 1, 22, 2)
	p.number(&p.insn.Amount, 1, 10, 6)
	p.rdRnRm()
}

// bounds are immr and imms.
func (p *pair) bounds() {
	p.number(&p.insn.Imm, 1, 16, 6)
	p.number(&p.insn.Imm2, 1, 10, 6)
	p.rdRn()
}
