package bus

import "understudy/api"

// How SysEoir and SysSgi have their parts.
const (
	eoiBits   = 0xFFFFFF
	sgiShift  = 24
	sgiBits   = 15
	sgiCores  = 0xFFFF
	sgiOthers = 1 << 40
)

// register is a system register: the least level that reaches it, and its methods, nil where it may not be read, or not written.
type register struct {
	sys, el int
	read    func(b *Bus, core int) uint64
	write   func(b *Bus, core int, value uint64)
}

// registers are all system registers of the timer and the GIC.
func registers() [7]register {
	return [...]register{
		{api.SysCnt, 0, (*Bus).count, nil},
		{api.SysCtl, 0, (*Bus).ctl, (*Bus).setCtl},
		{api.SysCval, 0, (*Bus).cval, (*Bus).setCval},
		{api.SysIar, 1, (*Bus).take, nil},
		{api.SysPmr, 1, (*Bus).limit, (*Bus).setLimit},
		{api.SysEoir, 1, nil, (*Bus).end},
		{api.SysSgi, 1, nil, (*Bus).send},
	}
}

// reach is the register that a level reaches under a number; one without methods, if there is none, or no such level.
func reach(el, sys int) register {
	for _, r := range registers() {
		if r.sys == sys && el >= r.el && el <= 1 {
			return r
		}
	}
	return register{}
}

func (b *Bus) count(core int) uint64 { return b.ask(core, api.SysCnt) }
func (b *Bus) ctl(core int) uint64   { return b.ask(core, api.SysCtl) }
func (b *Bus) cval(core int) uint64  { return b.ask(core, api.SysCval) }

// ask has no error to tell: the core and the register are there.
func (b *Bus) ask(core, sys int) uint64 {
	value, _ := b.timer.Read(core, sys)
	return value
}

func (b *Bus) setCtl(core int, value uint64)  { b.turn(core, api.SysCtl, value) }
func (b *Bus) setCval(core int, value uint64) { b.turn(core, api.SysCval, value) }

func (b *Bus) turn(core, sys int, value uint64) {
	b.timer.Write(core, sys, value)
	b.joinLines()
}

func (b *Bus) take(core int) uint64  { return uint64(b.gic.Ack(core)) }
func (b *Bus) limit(core int) uint64 { return uint64(b.gic.Limit(core)) }

func (b *Bus) setLimit(core int, value uint64) { b.gic.Mask(core, int(value&lowByte)) }

// end tells nothing of an interrupt that is none, or at which the core does not work: the GIC leaves all as it is then.
func (b *Bus) end(core int, value uint64) { b.gic.Eoi(core, int(value&eoiBits)) }

// send leaves out cores that are not there, which the GIC would refuse.
func (b *Bus) send(core int, value uint64) {
	all := 1<<b.cores - 1
	targets := int(value&sgiCores) & all
	if value&sgiOthers != 0 {
		targets = all &^ (1 << core)
	}
	b.gic.Send(targets, int(value>>sgiShift&sgiBits))
}
