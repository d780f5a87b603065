package alu_test

import (
	"math"
	"math/big"
	"testing"

	"understudy/alu"
	"understudy/api"
)

const (
	top = uint64(1) << 63
	all = math.MaxUint64
)

// numbers are the ends with and without signs and what stands beside them, each bit alone, patterns, and some that no rule made.
func numbers() []uint64 {
	out := []uint64{
		0, 1, 2, 3, 5, 7, 10, all, all - 1, all - 2, all - 6, top, top + 1, top - 1, top - 2, top | 7,
		0x5555555555555555, 0xAAAAAAAAAAAAAAAA, 0x0123456789ABCDEF, 0xFEDCBA9876543210,
		0x9E3779B97F4A7C15, 0x00000000FFFFFFFF, 0xFFFFFFFF00000000, 0x8000000080000001, 65, 127, 128,
	}
	for k := range 64 {
		out = append(out, 1<<k, ^uint64(1<<k))
	}
	return out
}

// odd are numbers that are no kind and no bit's place, some of which look like one in their lowest bits.
func odd() []int {
	return []int{-1, -2, -3, -63, -64, 64, 65, 127, 128, 256, 1 << 31, 1 << 32, 1<<32 + 1, 1<<62 + 3, math.MaxInt, math.MinInt, math.MinInt + 1}
}

// whole is a number as it counts without signs, signed with them; both are reckoned with beyond 64 bits.
func whole(value uint64) *big.Int  { return new(big.Int).SetUint64(value) }
func signed(value uint64) *big.Int { return big.NewInt(int64(value)) }

// wrapped is a number's rest modulo 2^64.
func wrapped(value *big.Int) uint64 {
	return new(big.Int).And(value, whole(all)).Uint64()
}

func one(holds bool) uint64 {
	if holds {
		return 1
	}
	return 0
}

// modelAdd holds the sums, with signs and without, against what 64 bits can have.
func modelAdd(a, b uint64, carry bool) (uint64, alu.Flags) {
	more := whole(one(carry))
	plain := new(big.Int).Add(whole(a), whole(b))
	plain.Add(plain, more)
	both := new(big.Int).Add(signed(a), signed(b))
	both.Add(both, more)
	sum := wrapped(plain)
	return sum, alu.Flags{
		N: sum/top == 1,
		Z: sum == 0,
		C: plain.BitLen() > 64,
		V: both.Cmp(signed(sum)) != 0,
	}
}

// P5.1: the chapter's examples, and the ends.
func TestAddExamples(t *testing.T) {
	for _, x := range []struct {
		a, b  uint64
		carry bool
		sum   uint64
		flags alu.Flags
	}{
		{all, 1, false, 0, alu.Flags{Z: true, C: true}},
		{top - 1, 1, false, top, alu.Flags{N: true, V: true}},
		{0, 0, false, 0, alu.Flags{Z: true}},
		{0, 0, true, 1, alu.Flags{}},
		{all, 0, false, all, alu.Flags{N: true}},
		{all, 0, true, 0, alu.Flags{Z: true, C: true}},
		{all, all, false, all - 1, alu.Flags{N: true, C: true}},
		{all, all, true, all, alu.Flags{N: true, C: true}},
		{top, top, false, 0, alu.Flags{Z: true, C: true, V: true}},
		{top, top, true, 1, alu.Flags{C: true, V: true}},
		{top - 1, 0, true, top, alu.Flags{N: true, V: true}},
		{top - 1, top - 1, true, all, alu.Flags{N: true, V: true}},
		{top, all, false, top - 1, alu.Flags{C: true, V: true}},
		{top, all, true, top, alu.Flags{N: true, C: true}},
		{top, top - 1, false, all, alu.Flags{N: true}},
		{top, top - 1, true, 0, alu.Flags{Z: true, C: true}},
		{5, ^uint64(3), true, 2, alu.Flags{C: true}},
		{3, ^uint64(5), true, all - 1, alu.Flags{N: true}},
	} {
		if sum, flags := alu.Add(x.a, x.b, x.carry); sum != x.sum || flags != x.flags {
			t.Errorf("Add(%#x, %#x, %v): %#x %+v", x.a, x.b, x.carry, sum, flags)
		}
	}
}

// P5.1, P5.5: the sum and each flag are what numbers without an end say; both ways round are the same.
func TestAdd(t *testing.T) {
	for _, a := range numbers() {
		for _, b := range numbers() {
			for _, carry := range []bool{false, true} {
				want, flags := modelAdd(a, b, carry)
				sum, got := alu.Add(a, b, carry)
				if sum != want || got != flags {
					t.Fatalf("Add(%#x, %#x, %v): %#x %+v, not %#x %+v", a, b, carry, sum, got, want, flags)
				}
				again, turned := alu.Add(b, a, carry)
				if again != sum || turned != got {
					t.Fatalf("Add(%#x, %#x, %v) is not Add the other way round", a, b, carry)
				}
			}
		}
	}
}

// model reckons by numbers without an end, and bit by bit.
func model(kind int, a, b uint64) uint64 {
	x, y := whole(a), whole(b)
	by := uint(b % 64)
	switch kind {
	case api.AAdd:
		return wrapped(x.Add(x, y))
	case api.ASub:
		return wrapped(x.Sub(x, y))
	case api.AMul:
		return wrapped(x.Mul(x, y))
	case api.AAnd, api.AOr, api.AXor:
		return bitByBit(kind, a, b)
	case api.AUdiv:
		return quotient(x, y)
	case api.ASdiv:
		return quotient(signed(a), signed(b))
	case api.AShl:
		return wrapped(x.Lsh(x, by))
	case api.AShr:
		return wrapped(x.Rsh(x, by))
	case api.ASar:
		return wrapped(x.Rsh(signed(a), by))
	case api.ARor:
		return oneByOne(a, by)
	case api.AEq:
		return one(x.Cmp(y) == 0)
	case api.AUlt:
		return one(x.Cmp(y) < 0)
	}
	return one(signed(a).Cmp(signed(b)) < 0)
}

// quotient is rounded to 0.
func quotient(a, b *big.Int) uint64 {
	if b.Sign() == 0 {
		return 0
	}
	return wrapped(new(big.Int).Quo(a, b))
}

func bitByBit(kind int, a, b uint64) uint64 {
	bySum := map[int][3]uint64{api.AAnd: {0, 0, 1}, api.AOr: {0, 1, 1}, api.AXor: {0, 1, 0}}[kind]
	out := uint64(0)
	for k := 63; k >= 0; k-- {
		out = out*2 + bySum[a>>k%2+b>>k%2]
	}
	return out
}

func oneByOne(value uint64, by uint) uint64 {
	for range by {
		value = value/2 + value%2*top
	}
	return value
}

func reckon(t *testing.T, kind int, a, b uint64) uint64 {
	t.Helper()
	out, e := alu.Reckon(kind, a, b)
	if e != api.OK {
		t.Fatalf("Reckon(%d, %#x, %#x): %v", kind, a, b, e)
	}
	return out
}

// P5.2: the chapter's examples, and for each kind some that are written out.
func TestReckonExamples(t *testing.T) {
	for _, x := range []struct {
		kind       int
		a, b, want uint64
	}{
		{api.AAdd, all, 2, 1}, {api.AAdd, 3, 4, 7},
		{api.ASub, 3, 4, all}, {api.ASub, 0, top, top}, {api.ASub, 9, 4, 5},
		{api.AMul, top, 2, 0}, {api.AMul, all, all, 1}, {api.AMul, 6, 7, 42}, {api.AMul, 1 << 32, 1 << 31, top},
		{api.AAnd, 0xF0F0, 0xFF00, 0xF000}, {api.AOr, 0xF0F0, 0xFF00, 0xFFF0}, {api.AXor, 0xF0F0, 0xFF00, 0x0FF0},
		{api.AUdiv, 5, 0, 0}, {api.AUdiv, 0, 0, 0}, {api.AUdiv, 7, 2, 3}, {api.AUdiv, all, 2, top - 1}, {api.AUdiv, top, all, 0}, {api.AUdiv, all, all, 1},
		{api.ASdiv, top, all, top}, {api.ASdiv, 5, 0, 0}, {api.ASdiv, top, 0, 0}, {api.ASdiv, all - 6, 2, all - 2}, {api.ASdiv, 7, all - 1, all - 2}, {api.ASdiv, all - 6, all - 1, 3}, {api.ASdiv, top, 1, top}, {api.ASdiv, 1, all, all},
		{api.AShl, 1, 63, top}, {api.AShl, 1, 64, 1}, {api.AShl, 3, 65, 6}, {api.AShl, all, all, top},
		{api.AShr, top, 63, 1}, {api.AShr, top, 64, top}, {api.AShr, top, 65, top / 2}, {api.AShr, all, 128, all},
		{api.ASar, top, 65, 0xC000000000000000}, {api.ASar, top, 63, all}, {api.ASar, top - 1, 62, 1}, {api.ASar, top, 64, top},
		{api.ARor, 1, 1, top}, {api.ARor, 1, 64, 1}, {api.ARor, 0x1234, 4, 0x4000000000000123}, {api.ARor, top, all, 1},
		{api.AEq, 3, 3, 1}, {api.AEq, 3, 3 + top, 0}, {api.AEq, 3, 3 + 1<<32, 0},
		{api.AUlt, 1, 2, 1}, {api.AUlt, 2, 2, 0}, {api.AUlt, all, 0, 0}, {api.AUlt, 0, all, 1}, {api.AUlt, top - 1, top, 1},
		{api.ASlt, all, 0, 1}, {api.ASlt, 0, all, 0}, {api.ASlt, top, top - 1, 1}, {api.ASlt, top - 1, top, 0}, {api.ASlt, 4, 4, 0},
	} {
		if got := reckon(t, x.kind, x.a, x.b); got != x.want {
			t.Errorf("Reckon(%d, %#x, %#x): %#x, not %#x", x.kind, x.a, x.b, got, x.want)
		}
	}
}

// P5.2: each kind of each two numbers.
func TestReckon(t *testing.T) {
	for kind := api.AAdd; kind <= api.ASlt; kind++ {
		for _, a := range numbers() {
			for _, b := range numbers() {
				if got, want := reckon(t, kind, a, b), model(kind, a, b); got != want {
					t.Fatalf("Reckon(%d, %#x, %#x): %#x, not %#x", kind, a, b, got, want)
				}
			}
		}
	}
}

// P5.2: shifts by each number of bits, and by as many and whole turns more.
func TestReckonShiftsBy(t *testing.T) {
	for _, kind := range []int{api.AShl, api.AShr, api.ASar, api.ARor} {
		for _, a := range numbers() {
			for by := range uint64(64) {
				want := model(kind, a, by)
				for _, b := range []uint64{by, by + 64, by + 1<<32, by + top, by + all - 63} {
					if got := reckon(t, kind, a, b); got != want {
						t.Fatalf("Reckon(%d, %#x, %#x): %#x, not %#x", kind, a, b, got, want)
					}
				}
			}
		}
	}
}

// P5.2: no kind.
func TestReckonWrong(t *testing.T) {
	for _, kind := range append(odd(), 0, 16, 17, 31, 32) {
		for _, a := range []uint64{0, 1, all} {
			if got, e := alu.Reckon(kind, a, 1); got != 0 || e != api.ErrArg {
				t.Errorf("Reckon(%d, %#x, 1): %#x %v", kind, a, got, e)
			}
		}
	}
}

// P5.3: each kind by each number of bits.
func TestShift(t *testing.T) {
	kinds := []int{api.AShl, api.AShr, api.ASar, api.ARor}
	for kind, way := range kinds {
		for _, value := range numbers() {
			for by := range 64 {
				want := model(way, value, uint64(by))
				if got, e := alu.Shift(value, kind, by); got != want || e != api.OK {
					t.Fatalf("Shift(%#x, %d, %d): %#x %v, not %#x", value, kind, by, got, e, want)
				}
			}
		}
	}
}

// P5.3: some that are written out.
func TestShiftExamples(t *testing.T) {
	for _, x := range []struct {
		value    uint64
		kind, by int
		want     uint64
	}{
		{top | 1, 0, 1, 2}, {top | 1, 1, 1, top / 2}, {top | 1, 2, 1, top + top/2}, {top | 1, 3, 1, top + top/2},
		{6, 0, 63, 0}, {6, 1, 63, 0}, {6, 2, 63, 0}, {6, 3, 63, 12},
		{top, 0, 0, top}, {top, 1, 0, top}, {top, 2, 0, top}, {top, 3, 0, top},
	} {
		if got, e := alu.Shift(x.value, x.kind, x.by); got != x.want || e != api.OK {
			t.Errorf("Shift(%#x, %d, %d): %#x %v", x.value, x.kind, x.by, got, e)
		}
	}
}

// P5.3: no kind, no number of bits; each alone, and both.
func TestShiftWrong(t *testing.T) {
	wrong := func(kind, by int) {
		if got, e := alu.Shift(all, kind, by); got != 0 || e != api.ErrArg {
			t.Errorf("Shift(all ones, %d, %d): %#x %v", kind, by, got, e)
		}
	}
	kinds := append(odd(), 4, 5, 7, 9, 10, 11, 12, -9)
	for _, kind := range kinds {
		for by := range 64 {
			wrong(kind, by)
		}
	}
	for _, by := range odd() {
		for kind := range 4 {
			wrong(kind, by)
		}
		for _, kind := range kinds {
			wrong(kind, by)
		}
	}
}

// modelField moves bit by bit.
func modelField(value uint64, copies bool, immr, imms int) uint64 {
	from, to, at := immr, imms, 0
	if imms < immr {
		from, to, at = 0, imms, 64-immr
	}
	var moved [64]uint64
	for k := from; k <= to; k++ {
		moved[at] = value >> k % 2
		at++
	}
	for k := at; copies && k < 64; k++ {
		moved[k] = moved[at-1]
	}
	out := uint64(0)
	for k := 63; k >= 0; k-- {
		out = out*2 + moved[k]
	}
	return out
}

// P5.4: the chapter's examples, and the ends.
func TestFieldExamples(t *testing.T) {
	for _, x := range []struct {
		value      uint64
		signed     bool
		immr, imms int
		want       uint64
	}{
		{0xF0, false, 4, 7, 0xF}, {0xF0, true, 4, 7, all}, {0x70, true, 4, 7, 7},
		{3, false, 60, 1, 0x30}, {3, true, 60, 1, all - 0xF}, {2, true, 60, 1, all - 0x1F}, {1, true, 60, 1, 0x10},
		{top + 5, true, 0, 63, top + 5}, {top + 5, false, 0, 63, top + 5},
		{top, false, 63, 63, 1}, {top, true, 63, 63, all}, {top - 1, true, 63, 63, 0},
		{all, false, 0, 0, 1}, {all, true, 0, 0, all}, {2, true, 0, 0, 0},
		{all, false, 63, 62, all - 1}, {all, true, 63, 62, all - 1}, {top - 1, false, 63, 62, all - 1},
		{all, false, 1, 0, top}, {all, true, 1, 0, top}, {all, false, 63, 0, 2}, {all, true, 63, 0, all - 1},
	} {
		if got, e := alu.Field(x.value, x.signed, x.immr, x.imms); got != x.want || e != api.OK {
			t.Errorf("Field(%#x, %v, %d, %d): %#x %v, not %#x", x.value, x.signed, x.immr, x.imms, got, e, x.want)
		}
	}
}

// P5.4: all immr and imms.
func TestField(t *testing.T) {
	values := []uint64{0, all, 0x5555555555555555, 0xAAAAAAAAAAAAAAAA, 0x9E3779B97F4A7C15, 0x61C8864680B583EA, top, top - 1, 1, all - 1}
	for immr := range 64 {
		for imms := range 64 {
			for _, value := range values {
				for _, copies := range []bool{false, true} {
					want := modelField(value, copies, immr, imms)
					if got, e := alu.Field(value, copies, immr, imms); got != want || e != api.OK {
						t.Fatalf("Field(%#x, %v, %d, %d): %#x %v, not %#x", value, copies, immr, imms, got, e, want)
					}
				}
			}
		}
	}
}

// P5.4: what is no place; each alone, and both.
func TestFieldWrong(t *testing.T) {
	wrong := func(immr, imms int) {
		for _, copies := range []bool{false, true} {
			if got, e := alu.Field(all, copies, immr, imms); got != 0 || e != api.ErrArg {
				t.Errorf("Field(all ones, %v, %d, %d): %#x %v", copies, immr, imms, got, e)
			}
		}
	}
	for _, a := range odd() {
		for place := range 64 {
			wrong(a, place)
			wrong(place, a)
		}
		for _, b := range odd() {
			wrong(a, b)
		}
	}
}

// P5.5: ASub of AAdd is the value; less is told by the flags of a difference; Field signed, of 0 and 63, is the value.
func TestFollows(t *testing.T) {
	for _, a := range numbers() {
		for _, b := range numbers() {
			if got := reckon(t, api.ASub, reckon(t, api.AAdd, a, b), b); got != a {
				t.Fatalf("%#x + %#x - %#x: %#x", a, b, b, got)
			}
			less, flags := alu.Add(a, ^b, true)
			if got := reckon(t, api.ASub, a, b); got != less {
				t.Fatalf("%#x - %#x: %#x, by Add %#x", a, b, got, less)
			}
			if got := reckon(t, api.AUlt, a, b); got != one(!flags.C) {
				t.Fatalf("AUlt of %#x, %#x: %d, and C is %v", a, b, got, flags.C)
			}
			if got := reckon(t, api.ASlt, a, b); got != one(flags.N != flags.V) {
				t.Fatalf("ASlt of %#x, %#x: %d, and the flags are %+v", a, b, got, flags)
			}
			if got := reckon(t, api.AEq, a, b); got != one(flags.Z) {
				t.Fatalf("AEq of %#x, %#x: %d, and Z is %v", a, b, got, flags.Z)
			}
		}
		if got, e := alu.Field(a, true, 0, 63); got != a || e != api.OK {
			t.Fatalf("Field(%#x, true, 0, 63): %#x %v", a, got, e)
		}
	}
}
