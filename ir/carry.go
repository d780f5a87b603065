package ir

import (
	"understudy/alu"
	"understudy/api"
)

func (r *Run) carryOut(o api.Op) {
	switch o.Kind {
	case api.IConst:
		r.define(o.Imm)
	case api.IAlu:
		value, _ := alu.Reckon(o.R, r.values[o.A], r.values[o.B]) // of a right block each kind is one
		r.define(value)
	case api.IAt:
		r.core.PC = o.Imm
	case api.ILoad, api.IStore, api.ILoadEx, api.IStoreEx:
		r.access(o, r.values[o.A])
	case api.IFence:
		r.wait(api.Want{Kind: api.WFence, Fence: o.R}, r.fenced)
	case api.IExitIf, api.IExit, api.IExitTo, api.IGuest:
		r.exit(o)
	default:
		r.register(o)
	}
}

func (r *Run) register(o api.Op) {
	switch o.Kind {
	case api.IGetX:
		r.define(r.core.X[o.R])
	case api.ISetX:
		r.core.X[o.R] = r.values[o.A]
	case api.IGetSP:
		r.define(r.core.SP[r.core.EL])
	case api.ISetSP:
		r.core.SP[r.core.EL] = r.values[o.A]
	case api.IGetF:
		r.define(oneIf(*r.flag(o.R)))
	case api.ISetF:
		*r.flag(o.R) = r.values[o.A] != 0
	}
}

func (r *Run) flag(n int) *bool {
	return [4]*bool{&r.core.N, &r.core.Z, &r.core.C, &r.core.V}[n]
}

func oneIf(on bool) uint64 {
	if on {
		return 1
	}
	return 0
}

func (r *Run) exit(o api.Op) {
	switch o.Kind {
	case api.IExitIf:
		if r.values[o.A] != 0 {
			r.leave(o.Imm)
		}
	case api.IExit:
		r.leave(o.Imm)
	case api.IExitTo:
		r.leave(r.values[o.A])
	case api.IGuest:
		r.leaveToGuest(uint32(o.Imm))
	}
}

func (r *Run) access(o api.Op, addr uint64) {
	if addr%8 != 0 {
		r.fault()
		return
	}
	isRelease := o.Order == api.ORel
	switch o.Kind {
	case api.ILoad:
		r.wait(api.Want{Kind: api.WLoad, Addr: addr, Acq: acquire(o.Order)}, r.loaded)
	case api.ILoadEx:
		r.wait(api.Want{Kind: api.WLoadEx, Addr: addr, Acq: acquire(o.Order)}, r.loaded)
	case api.IStore:
		r.wait(api.Want{Kind: api.WStore, Addr: addr, Value: r.values[o.B], Rel: isRelease}, r.stored)
	case api.IStoreEx:
		r.wait(api.Want{Kind: api.WStoreEx, Addr: addr, Value: r.values[o.B], Rel: isRelease}, r.storedEx)
	}
}

func acquire(order int) int {
	switch order {
	case api.OAcqPC:
		return api.AcqPC
	case api.OAcq:
		return api.Acq
	}
	return api.Plain
}

func (r *Run) loaded(got api.Got) {
	r.define(got.Value)
	r.faultIf(got)
}

func (r *Run) storedEx(got api.Got) {
	r.define(oneIf(!got.Ok))
	r.faultIf(got)
}

func (r *Run) stored(got api.Got) {
	r.faultIf(got)
}

// fenced asks for no fault: a fence has none.
func (r *Run) fenced(api.Got) {}

func (r *Run) faultIf(got api.Got) {
	if got.Fault != api.NoFault {
		r.fault()
	}
}
