package sem

import "understudy/api"

// wordBytes is how many bytes an access has; its address is a multiple of them.
const wordBytes = 8

// want is what the instruction wants of the world.
func (s *step) want() api.Want {
	if s.barred() {
		return s.unknown()
	}
	return s.wish()
}

// wish finds what the Op wants; an Op that is not in the list wants nothing.
func (s *step) wish() api.Want {
	wishes := [api.Hint + 1]func() api.Want{
		api.Undef: s.unknown,

		api.Ldr:    s.plainLoad,
		api.LdrReg: s.plainLoad,
		api.Ldar:   s.acquireLoad,
		api.Ldxr:   s.exclusiveLoad,
		api.Str:    s.plainStore,
		api.StrReg: s.plainStore,
		api.Stlr:   s.releaseStore,
		api.Stxr:   s.exclusiveStore,

		api.Clrex:   s.clear,
		api.Dmb:     s.fence,
		api.Isb:     s.refetch,
		api.IcIvau:  s.dropLine,
		api.IcIallu: s.dropAll,
		api.DcCvau:  s.cleanLine,

		api.Mrs:  s.sysRead,
		api.Msr:  s.sysWrite,
		api.Svc:  s.call,
		api.Brk:  s.breakpoint,
		api.Hint: s.hinted,
	}
	if wish := wishes[s.Op]; wish != nil {
		return wish()
	}
	return api.Want{}
}

func (s *step) unknown() api.Want {
	return api.Want{Kind: api.WTrap, Class: api.EcUnknown}
}

func (s *step) call() api.Want {
	return api.Want{Kind: api.WTrap, Class: api.EcSvc, Iss: s.Imm}
}

func (s *step) breakpoint() api.Want {
	return api.Want{Kind: api.WTrap, Class: api.EcBrk, Iss: s.Imm}
}

func (s *step) plainLoad() api.Want {
	return s.access(api.Want{Kind: api.WLoad, Acq: api.Plain})
}

func (s *step) acquireLoad() api.Want {
	acq := [2]int{api.Acq, api.AcqPC}
	return s.access(api.Want{Kind: api.WLoad, Acq: acq[s.Sub]})
}

func (s *step) exclusiveLoad() api.Want {
	acq := [2]int{api.Plain, api.Acq}
	return s.access(api.Want{Kind: api.WLoadEx, Acq: acq[s.Sub]})
}

func (s *step) plainStore() api.Want {
	return s.access(api.Want{Kind: api.WStore, Value: s.x(s.Rd)})
}

func (s *step) releaseStore() api.Want {
	return s.access(api.Want{Kind: api.WStore, Value: s.x(s.Rd), Rel: true})
}

func (s *step) exclusiveStore() api.Want {
	return s.access(api.Want{Kind: api.WStoreEx, Value: s.x(s.Rd), Rel: s.Sub == 1})
}

// access gives what is wanted its address, or wants an exception of that instead.
func (s *step) access(w api.Want) api.Want {
	w.Addr = s.address()
	if w.Addr%wordBytes == 0 {
		return w
	}
	return api.Want{Kind: api.WTrap, Class: api.EcData + s.core.EL, Iss: issOf(w.Kind, issCrooked), Addr: w.Addr}
}

// address asks the Op of Rm, as a store exclusive has its status there.
func (s *step) address() uint64 {
	base := s.xOrSP(s.Rn)
	if s.Op == api.LdrReg || s.Op == api.StrReg {
		return base + s.x(s.Rm)<<s.Amount
	}
	return base + uint64(s.Imm)
}

func (s *step) clear() api.Want {
	return api.Want{Kind: api.WClear}
}

func (s *step) fence() api.Want {
	fences := [4]int{1: api.FenceLd, 2: api.FenceSt, 3: api.FenceFull}
	return api.Want{Kind: api.WFence, Fence: fences[s.Imm], Dsb: s.Sub == 1}
}

func (s *step) refetch() api.Want {
	return api.Want{Kind: api.WIsb}
}

func (s *step) dropLine() api.Want {
	return api.Want{Kind: api.WIcLine, Addr: s.line()}
}

func (s *step) dropAll() api.Want {
	return api.Want{Kind: api.WIcAll}
}

func (s *step) cleanLine() api.Want {
	return api.Want{Kind: api.WDcLine, Addr: s.line()}
}

func (s *step) line() uint64 {
	return s.x(s.Rd) &^ (api.Line - 1)
}

// hinted: an event that is there already is not waited for.
func (s *step) hinted() api.Want {
	switch {
	case s.Imm == hintWfe && !s.core.Event:
		return api.Want{Kind: api.WWait, Value: waitEvent}
	case s.Imm == hintWfi:
		return api.Want{Kind: api.WWait, Value: waitInterrupt}
	case s.Imm == hintSev:
		return api.Want{Kind: api.WSend}
	}
	return api.Want{}
}
