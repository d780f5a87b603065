package fold

import (
	"understudy/alu"
	"understudy/api"
)

// place names a value by the operation that defines it.
type place = int

// nowhere is told of an operation that defines nothing, so that nobody asks where its value is.
const nowhere place = 0

// register is an X, a flag, or the stack pointer: the kind of the operation that gets it, and which.
type register struct{ kind, r int }

// pass is one go over a block.
type pass struct {
	known map[register]place       // the value that a register has, where one is laid down
	put   func(o api.Op) place     // lays an operation down, and tells its place
	at    func(value place) api.Op // the operation that defines a value
	left  bool                     // the block ends with what is laid down
}

// layAnew lays the operations of a right block down one behind the other, each made simpler by those laid down ahead of it.
func layAnew(ops []api.Op) []api.Op {
	var laid []api.Op
	p := pass{
		known: map[register]place{},
		put: func(o api.Op) place {
			laid = append(laid, o)
			return len(laid) - 1
		},
		at: func(value place) api.Op { return laid[value] },
	}
	places := make([]place, len(ops))
	for k, o := range ops {
		places[k] = p.lay(toldAnew(o, places))
		if p.left {
			break
		}
	}
	return laid
}

// toldAnew need not ask which of A and B a kind has: one that it has not is 0, and the first operation stays the first one.
func toldAnew(o api.Op, places []place) api.Op {
	o.A, o.B = places[o.A], places[o.B]
	return o
}

// lay tells where the value of an operation is that has been told anew.
func (p *pass) lay(o api.Op) place {
	switch o.Kind {
	case api.IGetX, api.IGetSP, api.IGetF:
		return p.get(o)
	case api.ISetX:
		return p.set(register{api.IGetX, o.R}, o)
	case api.ISetSP:
		return p.set(register{api.IGetSP, o.R}, o)
	case api.ISetF:
		return p.setFlag(o)
	case api.IAlu:
		return p.reckon(o)
	case api.IExitIf:
		return p.exitIf(o)
	}
	return p.put(o)
}

func (p *pass) get(o api.Op) place {
	r := register{o.Kind, o.R}
	value, is := p.known[r]
	if !is {
		value = p.put(o)
		p.known[r] = value
	}
	return value
}

func (p *pass) set(r register, o api.Op) place {
	p.known[r] = o.A
	return p.put(o)
}

// setFlag knows the flag only by a value that is 0 or 1: of another one the flag has only whether it is 0.
func (p *pass) setFlag(o api.Op) place {
	r := register{api.IGetF, o.R}
	if isFlag(p.at(o.A)) {
		return p.set(r, o)
	}
	delete(p.known, r)
	return p.put(o)
}

// isFlag tells of an operation that defines a value whether that is always 0 or 1.
func isFlag(o api.Op) bool {
	switch o.Kind {
	case api.IGetF:
		return true
	case api.IConst:
		return o.Imm <= 1
	case api.IAlu:
		return o.R == api.AEq || o.R == api.AUlt || o.R == api.ASlt
	}
	return false
}

func (p *pass) reckon(o api.Op) place {
	a, b := p.at(o.A), p.at(o.B)
	if a.Kind != api.IConst || b.Kind != api.IConst {
		return p.put(o)
	}
	value, _ := alu.Reckon(o.R, a.Imm, b.Imm) // of a right block each kind is one
	return p.put(api.Op{Kind: api.IConst, Imm: value})
}

func (p *pass) exitIf(o api.Op) place {
	asked := p.at(o.A)
	switch {
	case asked.Kind != api.IConst:
		p.put(o)
	case asked.Imm != 0:
		p.put(api.Op{Kind: api.IExit, Imm: o.Imm})
		p.left = true
	}
	return nowhere
}
