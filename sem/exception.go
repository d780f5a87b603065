package sem

import "understudy/api"

// Why an access is none, as Iss tells it: its address is crooked, or nothing is there. A store has one bit more.
const (
	issCrooked = 0x21
	issOutside = 0x10
	issStore   = 0x40
)

// exception is what trap.Enter is told.
type exception struct {
	class, iss int
	far        uint64
}

// exceptionOf is the one that is taken in place of what the instruction does, if one is.
func exceptionOf(w api.Want, got api.Got, el int) (exception, bool) {
	if w.Kind == api.WTrap {
		return exception{class: w.Class, iss: w.Iss, far: w.Addr}, true
	}
	if got.Fault == api.NoFault {
		return exception{}, false
	}
	switch w.Kind {
	case api.WLoad, api.WStore, api.WLoadEx, api.WStoreEx:
		return exception{class: api.EcData + el, iss: issOf(w.Kind, issOutside), far: w.Addr}, true
	case api.WSysRead, api.WSysWrite:
		return exception{class: api.EcUnknown}, true
	}
	return exception{}, false
}

func issOf(kind, why int) int {
	if kind == api.WStore || kind == api.WStoreEx {
		return why | issStore
	}
	return why
}
