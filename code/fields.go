package code

// The fields of each form, as rows of the chapter's table: one telling of them serves both ways,
// so that what is laid into a word and what is taken from it can't differ.

func (p *pair) nothing() {}

func (p *pair) rd() {
	p.register(&p.insn.Rd, 0)
}

func (p *pair) rdRn() {
	p.register(&p.insn.Rn, 5)
	p.rd()
}

func (p *pair) rdRnRm() {
	p.register(&p.insn.Rm, 16)
	p.rdRn()
}

func (p *pair) addImm() {
	p.sum()
	p.number(&p.insn.Amount, 12, 22, 1)
	p.number(&p.insn.Imm, 1, 10, 12)
	p.rdRn()
}

func (p *pair) addReg() {
	p.sum()
	p.shifted()
}

func (p *pair) logReg() {
	p.logic()
	p.sign(&p.insn.Not, 21)
	p.shifted()
}

func (p *pair) logImm() {
	p.logic()
	p.number(&p.insn.Amount, 1, 22, 1)
	p.bounds()
}

func (p *pair) movWide() {
	p.number(&p.insn.Sub, 1, 29, 2)
	p.number(&p.insn.Amount, 16, 21, 2)
	p.number(&p.insn.Imm, 1, 5, 16)
	p.rd()
}

func (p *pair) bitfield() {
	p.number(&p.insn.Sub, 1, 29, 2)
	p.bounds()
}

func (p *pair) shiftReg() {
	p.number(&p.insn.Sub, 1, 10, 2)
	p.rdRnRm()
}

func (p *pair) mul() {
	p.sign(&p.insn.Minus, 15)
	p.register(&p.insn.Ra, 10)
	p.rdRnRm()
}

func (p *pair) div() {
	p.number(&p.insn.Sub, 1, 10, 1)
	p.rdRnRm()
}

func (p *pair) sel() {
	p.insn.Sub = p.cross(p.insn.Sub/2, 30, 1)*2 + p.cross(p.insn.Sub%2, 10, 1)
	p.number(&p.insn.Cond, 1, 12, 4)
	p.rdRnRm()
}

// adr has the Sub first, as what Imm counts hangs on it.
func (p *pair) adr() {
	p.number(&p.insn.Sub, 1, 31, 1)
	unit := 1
	if p.insn.Sub == 1 {
		unit = 4096
	}
	v := p.insn.Imm / unit
	v = p.cross(v, 29, 2) + p.cross(v>>2, 5, 19)<<2
	p.insn.Imm = signed(v, 21) * unit
	p.rd()
}

func (p *pair) b() {
	p.sign(&p.insn.Link, 31)
	p.words(0, 26)
}

func (p *pair) bCond() {
	p.words(5, 19)
	p.number(&p.insn.Cond, 1, 0, 4)
}

func (p *pair) cbz() {
	p.sign(&p.insn.Not, 24)
	p.words(5, 19)
	p.rd()
}

func (p *pair) tbz() {
	p.sign(&p.insn.Not, 24)
	p.insn.Amount = p.cross(p.insn.Amount/32, 31, 1)*32 + p.cross(p.insn.Amount%32, 19, 5)
	p.words(5, 14)
	p.rd()
}

func (p *pair) br() {
	p.number(&p.insn.Sub, 1, 21, 2)
	p.register(&p.insn.Rn, 5)
}

func (p *pair) atImm() {
	p.number(&p.insn.Imm, 8, 10, 12)
	p.rdRn()
}

func (p *pair) atReg() {
	p.number(&p.insn.Amount, 3, 12, 1)
	p.rdRnRm()
}

func (p *pair) ldxr() {
	p.number(&p.insn.Sub, 1, 15, 1)
	p.rdRn()
}

func (p *pair) stxr() {
	p.number(&p.insn.Sub, 1, 15, 1)
	p.rdRnRm()
}

func (p *pair) dmb() {
	p.number(&p.insn.Imm, 1, 8, 2)
}

func (p *pair) system() {
	p.number(&p.insn.Sys, 1, 5, 15)
	p.rd()
}

func (p *pair) msrMask() {
	p.number(&p.insn.Imm, 1, 8, 4)
}

func (p *pair) call() {
	p.number(&p.insn.Imm, 1, 5, 16)
}

func (p *pair) hint() {
	p.number(&p.insn.Imm, 1, 5, 3)
}
