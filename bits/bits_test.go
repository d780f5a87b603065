package bits_test

import (
	"math"
	"testing"

	"understudy/api"
	"understudy/bits"
)

// words and numbers: patterns that have each bit both ways, ends, and single bits.
func words() []uint32 {
	out := []uint32{0, math.MaxUint32, 0x91000420, 0x55555555, 0xAAAAAAAA, 0xDEADBEEF}
	for k := range 32 {
		out = append(out, 1<<k, ^uint32(1<<k))
	}
	return out
}

func numbers() []uint64 {
	out := []uint64{0, math.MaxUint64, 0x0123456789ABCDEF, 0x5555555555555555, 0xAAAAAAAAAAAAAAAA}
	for k := range 64 {
		out = append(out, 1<<k, ^uint64(1<<k), 1<<k-1)
	}
	return out
}

// odd are arguments that no call takes as a place or a count, sums that wrap among them.
func odd() []int {
	return []int{-1, -2, -32, -64, math.MinInt, math.MinInt + 1, math.MaxInt, math.MaxInt - 1, math.MaxInt - 31, 1 << 32, 1 << 62}
}

func bit(value uint64, k int) uint64 {
	return value >> uint(k) & 1
}

// below: has the value no bit many or above?
func below(value uint64, many int) bool {
	for k := many; k < 64; k++ {
		if bit(value, k) == 1 {
			return false
		}
	}
	return true
}

// P1.1: the examples.
func TestFieldPutExamples(t *testing.T) {
	if v, e := bits.Field(0x91000420, 10, 12); v != 1 || e != api.OK {
		t.Error("Field(0x91000420, 10, 12):", v, e)
	}
	if v, e := bits.Field(1, 31, 2); v != 0 || e != api.ErrArg {
		t.Error("Field(1, 31, 2):", v, e)
	}
	if v, e := bits.Put(0, 5, 5, 31); v != 0x3E0 || e != api.OK {
		t.Error("Put(0, 5, 5, 31):", v, e)
	}
	if v, e := bits.Put(0, 5, 5, 32); v != 0 || e != api.ErrBits {
		t.Error("Put(0, 5, 5, 32):", v, e)
	}
}

// P1.1: all places and counts about the edges, bit by bit.
func TestField(t *testing.T) {
	for _, w := range words() {
		for at := -2; at <= 35; at++ {
			for many := -2; many <= 35; many++ {
				want, err := uint64(0), api.OK
				if at < 0 || many < 1 || at+many > 32 {
					err = api.ErrArg
				} else {
					for k := range many {
						want |= bit(uint64(w), at+k) << k
					}
				}
				if v, e := bits.Field(w, at, many); uint64(v) != want || e != err {
					t.Fatalf("Field(%#x, %d, %d): %#x %v, not %#x %v", w, at, many, v, e, want, err)
				}
			}
		}
	}
}

// putWant is Put, bit by bit.
func putWant(w uint32, at, many int, value uint32) (uint64, api.Errno) {
	if at < 0 || many < 1 || at+many > 32 {
		return 0, api.ErrArg
	}
	if !below(uint64(value), many) {
		return 0, api.ErrBits
	}
	want := uint64(0)
	for k := range 32 {
		b := bit(uint64(w), k)
		if k >= at && k < at+many {
			b = bit(uint64(value), k-at)
		}
		want |= b << k
	}
	return want, api.OK
}

// P1.1: Put, and that of several errors ErrArg is told.
func TestPut(t *testing.T) {
	for _, w := range []uint32{0, math.MaxUint32, 0xDEADBEEF} {
		for _, value := range words() {
			for at := -1; at <= 33; at++ {
				for many := -1; many <= 33; many++ {
					want, err := putWant(w, at, many, value)
					if v, e := bits.Put(w, at, many, value); uint64(v) != want || e != err {
						t.Fatalf("Put(%#x, %d, %d, %#x): %#x %v, not %#x %v", w, at, many, value, v, e, want, err)
					}
				}
			}
		}
	}
}

// P1.1: places and counts far off.
func TestFieldPutFarOff(t *testing.T) {
	for _, x := range odd() {
		for _, p := range [][2]int{{x, 1}, {0, x}, {1, x}, {31, x}, {x, x}, {x, math.MaxInt}, {x, math.MinInt}} {
			if v, e := bits.Field(math.MaxUint32, p[0], p[1]); v != 0 || e != api.ErrArg {
				t.Error("Field:", p, v, e)
			}
			if v, e := bits.Put(math.MaxUint32, p[0], p[1], math.MaxUint32); v != 0 || e != api.ErrArg {
				t.Error("Put:", p, v, e)
			}
		}
	}
}

// P1.2: the examples.
func TestSignedRorExamples(t *testing.T) {
	if v, e := bits.Signed(0x1FF, 9); v != math.MaxUint64 || e != api.OK {
		t.Error("Signed(0x1FF, 9):", v, e)
	}
	if v, e := bits.Signed(0xFF, 9); v != 0xFF || e != api.OK {
		t.Error("Signed(0xFF, 9):", v, e)
	}
	if v, e := bits.Ror(1, 1, 64); v != 1<<63 || e != api.OK {
		t.Error("Ror(1, 1, 64):", v, e)
	}
	if v, e := bits.Ror(2, 1, 4); v != 1 || e != api.OK {
		t.Error("Ror(2, 1, 4):", v, e)
	}
}

// P1.2: bits many and above of what is handed in do not matter, and are as bit many - 1 in the answer.
func TestSigned(t *testing.T) {
	for _, value := range numbers() {
		for many := -2; many <= 67; many++ {
			want, err := uint64(0), api.OK
			if many < 1 || many > 64 {
				err = api.ErrArg
			} else {
				for k := range 64 {
					want |= bit(value, min(k, many-1)) << k
				}
			}
			if v, e := bits.Signed(value, many); v != want || e != err {
				t.Fatalf("Signed(%#x, %d): %#x %v, not %#x %v", value, many, v, e, want, err)
			}
		}
	}
}

// P1.2: turned one by one, more than once round.
func TestRor(t *testing.T) {
	for _, value := range numbers() {
		for many := 1; many <= 64; many++ {
			want := value
			for by := range 2*many + 3 {
				v, e := bits.Ror(value, by, many)
				if !below(value, many) {
					if v != 0 || e != api.ErrBits {
						t.Fatalf("Ror(%#x, %d, %d): %#x %v, not ErrBits", value, by, many, v, e)
					}
				} else if v != want || e != api.OK {
					t.Fatalf("Ror(%#x, %d, %d): %#x %v, not %#x", value, by, many, v, e, want)
				}
				want = want>>1 | want&1<<(many-1)
			}
		}
	}
}

// P1.2: by may be as great as it likes; wrong counts, of which ErrArg is told ahead of ErrBits.
func TestRorFarOff(t *testing.T) {
	if v, e := bits.Ror(1, math.MaxInt, 64); v != 2 || e != api.OK {
		t.Error("Ror by 2^63 - 1:", v, e)
	}
	if v, e := bits.Ror(1, math.MaxInt, 2); v != 2 || e != api.OK {
		t.Error("Ror of 2 bits by 2^63 - 1:", v, e)
	}
	if v, e := bits.Ror(1, math.MaxInt, 1); v != 1 || e != api.OK {
		t.Error("Ror of 1 bit:", v, e)
	}
	for _, many := range append(odd(), 0, 65) {
		if v, e := bits.Ror(math.MaxUint64, 1, many); v != 0 || e != api.ErrArg {
			t.Error("Ror, many:", many, v, e)
		}
		if v, e := bits.Signed(math.MaxUint64, many); v != 0 || e != api.ErrArg {
			t.Error("Signed, many:", many, v, e)
		}
	}
	for _, by := range []int{-1, -64, math.MinInt} {
		for _, value := range []uint64{1, math.MaxUint64} {
			if v, e := bits.Ror(value, by, 4); v != 0 || e != api.ErrArg {
				t.Error("Ror, by:", by, v, e)
			}
		}
	}
}

// maskWant is Mask, word for word, bit by bit.
func maskWant(n, immr, imms int) (uint64, api.Errno) {
	if n < 0 || n > 1 || immr < 0 || immr > 63 || imms < 0 || imms > 63 {
		return 0, api.ErrArg
	}
	size := 64
	if n == 0 {
		size = 0
		for p := 1; p <= 63-imms; p *= 2 {
			size = p
		}
		if size < 2 {
			return 0, api.ErrBits
		}
	}
	s, r := imms%size, immr%size
	if s == size-1 {
		return 0, api.ErrBits
	}
	mask := uint64(0)
	for k := range 64 {
		if (k+r)%size <= s {
			mask |= 1 << k
		}
	}
	return mask, api.OK
}

// P1.3: the examples.
func TestMaskExamples(t *testing.T) {
	rows := []struct {
		n, immr, imms int
		mask          uint64
		err           api.Errno
	}{
		{1, 0, 0, 1, api.OK},
		{0, 0, 0x3C, 0x5555555555555555, api.OK},
		{1, 0, 63, 0, api.ErrBits},
		{0, 0, 0x3F, 0, api.ErrBits},
		{0, 0, 0x3E, 0, api.ErrBits},
		{0, 0, 0x3D, 0, api.ErrBits},
		{0, 1, 0x3C, 0xAAAAAAAAAAAAAAAA, api.OK},
		{0, 0, 0, 0x0000000100000001, api.OK},
		{0, 1, 0, 0x8000000080000000, api.OK},
		{0, 33, 0, 0x8000000080000000, api.OK},
		{0, 0, 0x1F, 0, api.ErrBits},
		{0, 4, 0x27, 0xF00FF00FF00FF00F, api.OK},
		{1, 63, 62, 0xFFFFFFFFFFFFFFFE, api.OK},
	}
	for _, x := range rows {
		if m, e := bits.Mask(x.n, x.immr, x.imms); m != x.mask || e != x.err {
			t.Errorf("Mask(%d, %d, %#x): %#x %v, not %#x %v", x.n, x.immr, x.imms, m, e, x.mask, x.err)
		}
	}
}

// P1.3: all there are, and those about the edges that may not be.
func TestMask(t *testing.T) {
	for n := -1; n <= 2; n++ {
		for immr := -1; immr <= 64; immr++ {
			for imms := -1; imms <= 64; imms++ {
				want, err := maskWant(n, immr, imms)
				if m, e := bits.Mask(n, immr, imms); m != want || e != err {
					t.Fatalf("Mask(%d, %d, %d): %#x %v, not %#x %v", n, immr, imms, m, e, want, err)
				}
			}
		}
	}
	for _, x := range odd() {
		for _, p := range [][3]int{{x, 0, 0}, {0, x, 0}, {1, 0, x}, {x, x, x}, {x, 0, 63}, {0, x, 63}} {
			if m, e := bits.Mask(p[0], p[1], p[2]); m != 0 || e != api.ErrArg {
				t.Error("Mask:", p, m, e)
			}
		}
	}
}

// P1.4: the examples.
func TestPartsExamples(t *testing.T) {
	rows := []struct {
		mask          uint64
		n, immr, imms int
		err           api.Errno
	}{
		{0xFF, 1, 0, 7, api.OK},
		{0, 0, 0, 0, api.ErrBits},
		{math.MaxUint64, 0, 0, 0, api.ErrBits},
		{5, 0, 0, 0, api.ErrBits},
		{0x0505050505050505, 0, 0, 0, api.ErrBits},
		{0x5555555555555555, 0, 0, 0x3C, api.OK},
		{0xAAAAAAAAAAAAAAAA, 0, 1, 0x3C, api.OK},
		{0x1111111111111111, 0, 0, 0x38, api.OK},
		{0x7777777777777777, 0, 0, 0x3A, api.OK},
		{0x0101010101010101, 0, 0, 0x30, api.OK},
		{0x0001000100010001, 0, 0, 0x20, api.OK},
		{0x0000000100000001, 0, 0, 0, api.OK},
		{0xFFFFFFFEFFFFFFFE, 0, 31, 30, api.OK},
		{0xFFFFFFFFFFFFFFFE, 1, 63, 62, api.OK},
		{0x8000000000000001, 1, 1, 1, api.OK},
	}
	for _, x := range rows {
		if n, r, s, e := bits.Parts(x.mask); n != x.n || r != x.immr || s != x.imms || e != x.err {
			t.Errorf("Parts(%#x): %d %d %#x %v, not %d %d %#x %v", x.mask, n, r, s, e, x.n, x.immr, x.imms, x.err)
		}
	}
}

// parts are the n, immr, imms of a mask.
type parts struct{ n, immr, imms int }

// leastParts: of each mask that there is the parts that P1.4 wants: of the sizes from the least on, immr below the size, imms' other bits as a literal of each size.
func leastParts() map[uint64]parts {
	out := map[uint64]parts{}
	for _, x := range []struct{ size, n, high int }{{2, 0, 0b111100}, {4, 0, 0b111000}, {8, 0, 0b110000}, {16, 0, 0b100000}, {32, 0, 0}, {64, 1, 0}} {
		for r := range x.size {
			for s := range x.size - 1 {
				m, _ := maskWant(x.n, r, x.high|s)
				if _, had := out[m]; !had {
					out[m] = parts{x.n, r, x.high | s}
				}
			}
		}
	}
	return out
}

// P1.4, P1.5: the parts of all masks; whatever is a bit beside one is a mask of leastParts, or none.
func TestParts(t *testing.T) {
	all := leastParts()
	if len(all) != 5334 {
		t.Error("masks:", len(all))
	}
	ask := func(m uint64) {
		want, is := all[m]
		err := api.OK
		if !is {
			err = api.ErrBits
		}
		n, r, s, e := bits.Parts(m)
		if (parts{n, r, s}) != want || e != err {
			t.Fatalf("Parts(%#x): %d %d %#x %v, not %v %v", m, n, r, s, e, want, err)
		}
	}
	for m := range all {
		ask(m)
		for k := range 64 {
			ask(m ^ 1<<k)
		}
	}
	for m := range uint64(1 << 12) {
		ask(m)
		ask(^m)
		ask(m | m<<16 | m<<32 | m<<48)
	}
}

// P1.5: Field of Put is the value, and what is put stands nowhere else.
func TestFieldOfPut(t *testing.T) {
	for _, w := range words() {
		for at := range 32 {
			for many := 1; at+many <= 32; many++ {
				value := uint32(0x9E3779B9) >> (32 - many)
				p, e := bits.Put(w, at, many, value)
				if v, f := bits.Field(p, at, many); v != value || e != api.OK || f != api.OK {
					t.Fatal("Field of Put:", w, at, many, v, e, f)
				}
				old, _ := bits.Field(w, at, many)
				if back, f := bits.Put(p, at, many, old); back != w || f != api.OK {
					t.Fatal("Put of what was there:", w, at, many, back, f)
				}
			}
		}
	}
}

// P1.5: Mask of Parts is the mask, and there are 5334 of them.
func TestMaskOfParts(t *testing.T) {
	all := map[uint64]bool{}
	for n := range 2 {
		for immr := range 64 {
			for imms := range 64 {
				m, e := bits.Mask(n, immr, imms)
				if e != api.OK {
					continue
				}
				all[m] = true
				a, b, c, f := bits.Parts(m)
				if back, g := bits.Mask(a, b, c); back != m || f != api.OK || g != api.OK {
					t.Fatalf("Mask of Parts(%#x): %#x %v %v", m, back, f, g)
				}
			}
		}
	}
	if len(all) != 5334 {
		t.Error("masks:", len(all))
	}
}

// P1.5: Ror by many is the value.
func TestRorByMany(t *testing.T) {
	for _, value := range numbers() {
		for many := 1; many <= 64; many++ {
			if !below(value, many) {
				continue
			}
			if v, e := bits.Ror(value, many, many); v != value || e != api.OK {
				t.Fatal("Ror by many:", value, many, v, e)
			}
		}
	}
}
