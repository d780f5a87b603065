package ir

import (
	"strconv"
	"strings"

	"understudy/api"
)

// Text is how a block is told.
func Text(b api.Block) (string, api.Errno) {
	if !Right(b) {
		return "", api.ErrBlock
	}
	var text strings.Builder
	for k, o := range b.Ops {
		text.WriteString(strconv.Itoa(k) + " " + told(o) + "\n")
	}
	return text.String(), api.OK
}

func told(o api.Op) string {
	s := shapeOf(o.Kind)
	line := s.name
	for _, f := range []struct{ part, value int }{{fieldR, o.R}, {fieldA, o.A}, {fieldB, o.B}, {fieldOrder, o.Order}} {
		if s.has(f.part) {
			line += " " + strconv.Itoa(f.value)
		}
	}
	if s.has(fieldImm) {
		line += " " + strconv.FormatUint(o.Imm, 10)
	}
	return line
}
