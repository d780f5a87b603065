package ir

import (
	"slices"

	"understudy/api"
	"understudy/regs"
)

// Run is a block that is run on a state.
type Run struct {
	ops     []api.Op
	values  []uint64 // by the places of the operations that define them
	next    int      // the place that comes next; behind the last one: the block has been left
	core    api.Core
	want    api.Want
	goOn    func(api.Got) // the method of this run that is told what came of what is wanted; nil: it does not wait
	word    uint32
	guest   bool
	faulted bool
}

// New begins at the block's beginning.
func New(b api.Block, c api.Core) (*Run, api.Errno) {
	if !Right(b) {
		return nil, api.ErrBlock
	}
	if !regs.Right(c) || c.EL != b.EL {
		return nil, api.ErrArg
	}
	return &Run{ops: slices.Clone(b.Ops), values: make([]uint64, len(b.Ops)), core: c}, api.OK
}

// Next goes on to the next operation that wants something of the world: what; false: the block has been left.
func (r *Run) Next() (api.Want, bool) {
	for r.goOn == nil && r.next < len(r.ops) {
		o := r.ops[r.next]
		r.next++
		r.carryOut(o)
	}
	return r.want, r.goOn != nil
}

// Take is told what came of it.
func (r *Run) Take(got api.Got) api.Errno {
	if r.goOn == nil {
		return api.ErrArg
	}
	goOn := r.goOn
	r.wait(api.Want{}, nil)
	goOn(got)
	return api.OK
}

// Core is the state, Guest the word that is to be carried out when the block has been left (0 and false: none); Faulted: it was left by a fault.
func (r *Run) Core() api.Core        { return r.core }
func (r *Run) Guest() (uint32, bool) { return r.word, r.guest }
func (r *Run) Faulted() bool         { return r.faulted }

func (r *Run) wait(want api.Want, goOn func(api.Got)) {
	r.want, r.goOn = want, goOn
}

// define is called while next is the place behind the operation that defines.
func (r *Run) define(value uint64) {
	r.values[r.next-1] = value
}

func (r *Run) leave(pc uint64) {
	r.core.PC = pc
	r.next = len(r.ops)
}

// fault leaves the state as it is: its PC is that of the last IAt.
func (r *Run) fault() {
	r.faulted = true
	r.leave(r.core.PC)
}

func (r *Run) leaveToGuest(word uint32) {
	r.word, r.guest = word, true
	r.leave(r.core.PC)
}
