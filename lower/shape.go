package lower

import (
	"strconv"

	"understudy/api"
)

// What a kind of micro-operation may have: its fields, in the order in which a text tells them, and that nothing stands behind it.
const (
	fieldR = 1 << iota
	fieldD
	fieldA
	fieldB
	fieldOrder
	fieldImm
	anEnd
)

// fieldsOf are an operation's fields, in the order of their parts.
func fieldsOf(o api.Micro) [6]uint64 {
	return [6]uint64{uint64(o.R), uint64(o.D), uint64(o.A), uint64(o.B), uint64(o.Order), o.Imm}
}

// shape is how a kind is told, and all that it has.
type shape struct {
	name  string
	parts int
}

func (s shape) has(part int) bool {
	return s.parts&part != 0
}

// shapeOf has no name for a kind that is none.
func shapeOf(kind int) shape {
	shapes := [...]shape{
		api.MConst:   {"const", fieldD | fieldImm},
		api.MMove:    {"move", fieldD | fieldA},
		api.MFill:    {"fill", fieldD | fieldImm},
		api.MSpill:   {"spill", fieldA | fieldImm},
		api.MGetX:    {"getx", fieldR | fieldD},
		api.MSetX:    {"setx", fieldR | fieldA},
		api.MGetSP:   {"getsp", fieldD},
		api.MSetSP:   {"setsp", fieldA},
		api.MGetF:    {"getf", fieldR | fieldD},
		api.MSetF:    {"setf", fieldR | fieldA},
		api.MAlu:     {"alu", fieldR | fieldD | fieldA | fieldB},
		api.MLoad:    {"load", fieldD | fieldA | fieldOrder},
		api.MStore:   {"store", fieldA | fieldB | fieldOrder},
		api.MLoadEx:  {"loadex", fieldD | fieldA | fieldOrder},
		api.MStoreEx: {"storeex", fieldD | fieldA | fieldB | fieldOrder},
		api.MFence:   {"fence", 0},
		api.MNote:    {"note", fieldR},
		api.MAt:      {"at", fieldImm},
		api.MExitIf:  {"exitif", fieldA | fieldImm},
		api.MExit:    {"exit", fieldImm | anEnd},
		api.MExitTo:  {"exitto", fieldA | anEnd},
		api.MGuest:   {"guest", fieldImm | anEnd},
	}
	if kind < api.MConst || kind >= len(shapes) {
		return shape{}
	}
	return shapes[kind]
}

func told(o api.Micro) string {
	s := shapeOf(o.Kind)
	line := s.name
	for k, value := range fieldsOf(o) {
		if s.has(1 << k) {
			line += " " + strconv.FormatUint(value, 10)
		}
	}
	return line
}
