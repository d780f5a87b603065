package sem

import (
	"testing"

	"understudy/api"
)

// P6.3: which exception is entered, with what, by what was wanted and what came of it. (What the state is then
// is told by layer 7; this is what it is told.)
func TestExceptionOf(t *testing.T) {
	const addr = 0xFFFFFFFFFFFFFFF8
	for el := range 2 {
		data := api.EcData + el
		for _, row := range []struct {
			want  api.Want
			fault exception
			is    bool
		}{
			{api.Want{Kind: api.WLoad, Addr: addr, Acq: api.Acq}, exception{data, 0x10, addr}, true},
			{api.Want{Kind: api.WLoadEx, Addr: addr}, exception{data, 0x10, addr}, true},
			{api.Want{Kind: api.WStore, Addr: addr, Value: 7}, exception{data, 0x50, addr}, true},
			{api.Want{Kind: api.WStoreEx, Addr: addr, Value: 7, Rel: true}, exception{data, 0x50, addr}, true},
			{api.Want{Kind: api.WSysRead, Sys: api.SysCnt}, exception{api.EcUnknown, 0, 0}, true},
			{api.Want{Kind: api.WSysWrite, Sys: api.SysPmr, Value: 7}, exception{api.EcUnknown, 0, 0}, true},
			{api.Want{Kind: api.WNone}, exception{}, false},
			{api.Want{Kind: api.WClear}, exception{}, false},
			{api.Want{Kind: api.WFence, Fence: api.FenceLd}, exception{}, false},
			{api.Want{Kind: api.WIsb}, exception{}, false},
			{api.Want{Kind: api.WIcLine, Addr: 64}, exception{}, false},
			{api.Want{Kind: api.WIcAll}, exception{}, false},
			{api.Want{Kind: api.WDcLine, Addr: 64}, exception{}, false},
			{api.Want{Kind: api.WWait, Value: 1}, exception{}, false},
			{api.Want{Kind: api.WSend}, exception{}, false},
		} {
			if x, is := exceptionOf(row.want, api.Got{Value: 9, Ok: true}, el); is || x != (exception{}) {
				t.Errorf("%+v without a fault: %+v %v", row.want, x, is)
			}
			for _, fault := range []int{api.Outside, api.Denied, 3, -1, 1 << 32} {
				if x, is := exceptionOf(row.want, api.Got{Fault: fault}, el); is != row.is || x != row.fault {
					t.Errorf("%+v with the fault %d: %+v %v", row.want, fault, x, is)
				}
			}
		}
	}
}

// P6.3: of what wants an exception itself got is nothing.
func TestExceptionOfTrap(t *testing.T) {
	w := api.Want{Kind: api.WTrap, Class: 0x3F, Iss: 1<<25 - 1, Addr: 1<<64 - 1}
	for el := range 2 {
		for _, got := range []api.Got{{}, {Value: 5, Ok: true}, {Fault: api.Outside}, {Fault: -1}} {
			if x, is := exceptionOf(w, got, el); !is || x != (exception{0x3F, 1<<25 - 1, 1<<64 - 1}) {
				t.Errorf("%+v: %+v %v", got, x, is)
			}
		}
	}
}

// P6.3: the syndromes of the chapter's examples, of the numbers that layer 7 is told.
func TestExceptionExamples(t *testing.T) {
	c := api.Core{PC: 0x1000, EL: 1, Mask: true}
	c.X[1] = 5
	for _, row := range []struct {
		word uint32
		got  api.Got
		esr  int
		far  uint64
	}{
		{0xF9400020, api.Got{}, 0x96000021, 5},
		{0xF9400000, api.Got{Fault: api.Outside}, 0x96000010, 0},
		{0xF9000000, api.Got{Fault: api.Outside}, 0x96000050, 0},
		{0x00000000, api.Got{}, 0x02000000, 0},
		{0xD40000A1, api.Got{}, 0x56000005, 0},
		{0xD538CC00, api.Got{Fault: api.Denied}, 0x02000000, 0},
	} {
		w, e := Begin(c, row.word)
		x, is := exceptionOf(w, row.got, c.EL)
		if e != api.OK || !is || x.class<<26|1<<25|x.iss != row.esr || x.far != row.far {
			t.Errorf("%08x: %+v %v %v", row.word, x, is, e)
		}
	}
}
