package ir

import "understudy/api"

// What a kind of operation may have.
const (
	fieldR = 1 << iota
	fieldA
	fieldB
	fieldOrder
	fieldImm
	aValue
	aWayOut
	anEnd
)

// shape is how a kind is told, and all that it has.
type shape struct {
	name  string
	parts int
}

func (s shape) has(part int) bool {
	return s.parts&part != 0
}

// shapeOf stops by a panic at a kind that is none, so that who asks need not: the faces see to it.
func shapeOf(kind int) shape {
	shapes := [...]shape{
		api.IConst:   {"const", fieldImm | aValue},
		api.IGetX:    {"getx", fieldR | aValue},
		api.ISetX:    {"setx", fieldR | fieldA},
		api.IGetSP:   {"getsp", aValue},
		api.ISetSP:   {"setsp", fieldA},
		api.IGetF:    {"getf", fieldR | aValue},
		api.ISetF:    {"setf", fieldR | fieldA},
		api.IAlu:     {"alu", fieldR | fieldA | fieldB | aValue},
		api.ILoad:    {"load", fieldA | fieldOrder | aValue | aWayOut},
		api.IStore:   {"store", fieldA | fieldB | fieldOrder | aWayOut},
		api.ILoadEx:  {"loadex", fieldA | fieldOrder | aValue | aWayOut},
		api.IStoreEx: {"storeex", fieldA | fieldB | fieldOrder | aValue | aWayOut},
		api.IFence:   {"fence", fieldR},
		api.IAt:      {"at", fieldImm},
		api.IExitIf:  {"exitif", fieldA | fieldImm | aWayOut},
		api.IExit:    {"exit", fieldImm | aWayOut | anEnd},
		api.IExitTo:  {"exitto", fieldA | aWayOut | anEnd},
		api.IGuest:   {"guest", fieldImm | aWayOut | anEnd},
	}
	if kind < api.IConst || kind >= len(shapes) {
		panic(api.ErrBlock)
	}
	return shapes[kind]
}
