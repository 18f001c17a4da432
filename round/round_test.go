package round

import (
	"fmt"
	"math"
	"math/big"
	"math/rand"
	"testing"
)

// The greatest decimal, the least one, and the one number of 64 bits that may not be.
const (
	most  = int64(9223372036854775807)
	least = int64(-9223372036854775807)
	none  = int64(math.MinInt64)
)

// modes is all modes.
var modes = []int{Half, Down, Up, Floor, Ceil}

// noModes is numbers that are no modes.
var noModes = []int{0, 6, 7, -1, -5, 10, 257, 1 << 32, 1<<32 + 1, math.MaxInt, math.MinInt, math.MinInt + 1}

// bigOf is a number that may have any number of digits.
func bigOf(x int64) *big.Int { return big.NewInt(x) }

// mayBe is the document's word on which decimals may be.
func mayBe(l ...int64) bool {
	for _, x := range l {
		if x == none {
			return false
		}
	}
	return true
}

// told is the document's word on what a call answers from which exactly that comes out; nil, if nothing does.
func told(out *big.Int) (int64, bool) {
	if out == nil || !out.IsInt64() || !mayBe(out.Int64()) {
		return 0, false
	}
	return out.Int64(), true
}

// nearest is the one of some numbers that is nearest to x and is taken: of two as near ones that further from 0, and of two with unlike signs that above 0.
func nearest(x *big.Int, numbers []*big.Int, taken func(n *big.Int) bool) *big.Int {
	var best, miss *big.Int
	for _, n := range numbers {
		far := new(big.Int).Sub(n, x)
		far.Abs(far)
		switch {
		case !taken(n):
		case best == nil || far.Cmp(miss) < 0:
			best, miss = n, far
		case far.Cmp(miss) == 0 && n.CmpAbs(best) > 0:
			best, miss = n, far
		case far.Cmp(miss) == 0 && n.CmpAbs(best) == 0 && n.Sign() > 0:
			best, miss = n, far
		}
	}
	return best
}

// multiples is the multiples of a step about x, up to so many beside it.
func multiples(x, step *big.Int, beside int64) []*big.Int {
	l := []*big.Int{}
	cut := new(big.Int).Quo(x, step)
	for i := -beside; i <= beside; i++ {
		times := new(big.Int).Add(cut, bigOf(i))
		l = append(l, times.Mul(times, step))
	}
	return l
}

// rounded is the document's word on x rounded to a step above 0.
func rounded(x, step *big.Int, mode int) *big.Int {
	return nearest(x, multiples(x, step, 1), func(n *big.Int) bool {
		switch mode {
		case Half:
			return true
		case Down:
			return n.CmpAbs(x) <= 0
		case Up:
			return n.CmpAbs(x) >= 0
		case Floor:
			return n.Cmp(x) <= 0
		case Ceil:
			return n.Cmp(x) >= 0
		}
		return false
	})
}

// stepByWords is the document's word on Step.
func stepByWords(x, step int64, mode int) (int64, bool) {
	if !mayBe(x, step) || step <= 0 {
		return 0, false
	}
	return told(rounded(bigOf(x), bigOf(step), mode))
}

// placesByWords is the document's word on Places.
func placesByWords(x int64, places int, mode int) (int64, bool) {
	if !mayBe(x) || places < -14 {
		return 0, false
	}
	step := new(big.Int).Exp(bigOf(10), bigOf(int64(4-min(places, 4))), nil)
	return told(rounded(bigOf(x), step, mode))
}

// quotient is a over b, rounded down to a whole number, or towards 0.
func quotient(a, b int64, down bool) *big.Int {
	whole, rest := new(big.Int).QuoRem(bigOf(a), bigOf(b), new(big.Int))
	if down && rest.Sign()*bigOf(b).Sign() < 0 {
		whole.Sub(whole, bigOf(1))
	}
	return whole
}

// modByWords is the document's word on Mod.
func modByWords(a, b int64) (int64, bool) {
	if !mayBe(a, b) || b == 0 {
		return 0, false
	}
	times := quotient(a, b, true)
	return told(times.Sub(bigOf(a), times.Mul(times, bigOf(b))))
}

// quotByWords is the document's word on Quot.
func quotByWords(a, b int64) (int64, bool) {
	if !mayBe(a, b) || b == 0 {
		return 0, false
	}
	times := quotient(a, b, false)
	return told(times.Mul(times, bigOf(10000)))
}

// parityByWords is the document's word on Even (rest 0) and Odd (rest 1).
func parityByWords(x int64, rest int64) (int64, bool) {
	if !mayBe(x) {
		return 0, false
	}
	return told(nearest(bigOf(x), multiples(bigOf(x), bigOf(10000), 3), func(n *big.Int) bool {
		units := new(big.Int).Quo(n, bigOf(10000))
		return int64(units.Bit(0)) == rest && n.CmpAbs(bigOf(x)) >= 0
	}))
}

// about is numbers and those just beside them, with each sign.
func about(l ...int64) []int64 {
	all := []int64{}
	for _, x := range l {
		all = append(all, x-1, x, x+1, 1-x, -x, -1-x)
	}
	return all
}

// edges is numbers about 0, halves and wholes of 10000 ten-thousandths, powers of 2 and of 10 and their halves, the whole numbers at the edge of the room of decimals, and both ends of 64 bits.
func edges() []int64 {
	return append(about(0, 5000, 10000, 15000, 20000, 25000, 30000, 1<<31, 1<<32, 1<<53,
		500000000000000000, 1000000000000000000, 5000000000000000000, 9000000000000000000, 1<<62,
		9223372036854750000, 9223372036854760000, 9223372036854765000, 9223372036854770000, 9223372036854775000, most-1),
		none, 2, -2, 3, -3, 4, -4, 7, -7, 9, -9, 15, -15)
}

// small is all numbers that are no further from 0 than so many.
func small(far int64) []int64 {
	l := []int64{}
	for x := -far; x <= far; x++ {
		l = append(l, x)
	}
	return l
}

// someNumbers is numbers of any size and sign, as many of few bits as of many.
func someNumbers(count int) []int64 {
	chance := rand.New(rand.NewSource(9))
	l := []int64{}
	for range count {
		l = append(l, int64(chance.Uint64())>>chance.Intn(64))
	}
	return l
}

// holdStep holds Step by each mode against the document's words.
func holdStep(t *testing.T, x, step int64) {
	t.Helper()
	for _, mode := range modes {
		want, wantOk := stepByWords(x, step, mode)
		if got, ok := Step(x, step, mode); got != want || ok != wantOk {
			t.Errorf("Step(%d, %d, %d): %d, %v; not %d, %v", x, step, mode, got, ok, want, wantOk)
		}
	}
}

// holdPlaces holds Places by each mode against the document's words.
func holdPlaces(t *testing.T, x int64, places int) {
	t.Helper()
	for _, mode := range modes {
		want, wantOk := placesByWords(x, places, mode)
		if got, ok := Places(x, places, mode); got != want || ok != wantOk {
			t.Errorf("Places(%d, %d, %d): %d, %v; not %d, %v", x, places, mode, got, ok, want, wantOk)
		}
	}
}

// holdQuotients holds Mod and Quot against the document's words.
func holdQuotients(t *testing.T, a, b int64) {
	t.Helper()
	want, wantOk := modByWords(a, b)
	if got, ok := Mod(a, b); got != want || ok != wantOk {
		t.Errorf("Mod(%d, %d): %d, %v; not %d, %v", a, b, got, ok, want, wantOk)
	}
	want, wantOk = quotByWords(a, b)
	if got, ok := Quot(a, b); got != want || ok != wantOk {
		t.Errorf("Quot(%d, %d): %d, %v; not %d, %v", a, b, got, ok, want, wantOk)
	}
}

// holdOne holds the calls of one number against the document's words.
func holdOne(t *testing.T, x int64) {
	t.Helper()
	want, wantOk := stepByWords(x, 10000, Floor)
	if got, ok := Int(x); got != want || ok != wantOk {
		t.Errorf("Int(%d): %d, %v; not %d, %v", x, got, ok, want, wantOk)
	}
	want, wantOk = parityByWords(x, 0)
	if got, ok := Even(x); got != want || ok != wantOk {
		t.Errorf("Even(%d): %d, %v; not %d, %v", x, got, ok, want, wantOk)
	}
	want, wantOk = parityByWords(x, 1)
	if got, ok := Odd(x); got != want || ok != wantOk {
		t.Errorf("Odd(%d): %d, %v; not %d, %v", x, got, ok, want, wantOk)
	}
}

// nothing holds that a call answered 0 and false.
func nothing(t *testing.T, name string, arguments ...int64) func(int64, bool) {
	return func(got int64, ok bool) {
		t.Helper()
		if got != 0 || ok {
			t.Errorf("%s of %v: %d, %v", name, arguments, got, ok)
		}
	}
}

// P9.1

// stepped is what is asked of Step by all modes, in their row.
type stepped struct {
	x, step int64
	want    [5]int64
}

// askModes holds a call by each mode, in their row, against what is asked of it; where that is the least number of 64 bits, there is none.
func askModes(t *testing.T, name string, want [5]int64, call func(mode int) (int64, bool)) {
	t.Helper()
	for i, mode := range modes {
		x, ok := call(mode)
		switch {
		case want[i] == none && (x != 0 || ok):
			t.Errorf("%s by %d: %d, %v; not 0, false", name, mode, x, ok)
		case want[i] != none && (x != want[i] || !ok):
			t.Errorf("%s by %d: %d, %v; not %d, true", name, mode, x, ok, want[i])
		}
	}
}

// askStep holds Step by each mode against what is asked of it.
func askStep(t *testing.T, l []stepped) {
	t.Helper()
	for _, x := range l {
		askModes(t, fmt.Sprintf("Step of %d and %d", x.x, x.step), x.want, func(mode int) (int64, bool) { return Step(x.x, x.step, mode) })
	}
}

// TestModes holds which number each mode has.
func TestModes(t *testing.T) {
	if Half != 1 || Down != 2 || Up != 3 || Floor != 4 || Ceil != 5 {
		t.Error("the modes have other numbers")
	}
}

func TestStep(t *testing.T) {
	askStep(t, []stepped{
		{0, 10, [5]int64{0, 0, 0, 0, 0}}, {10, 10, [5]int64{10, 10, 10, 10, 10}}, {-10, 10, [5]int64{-10, -10, -10, -10, -10}}, {30, 10, [5]int64{30, 30, 30, 30, 30}},
		{21, 10, [5]int64{20, 20, 30, 20, 30}}, {24, 10, [5]int64{20, 20, 30, 20, 30}}, {25, 10, [5]int64{30, 20, 30, 20, 30}}, {26, 10, [5]int64{30, 20, 30, 20, 30}}, {29, 10, [5]int64{30, 20, 30, 20, 30}},
		{-21, 10, [5]int64{-20, -20, -30, -30, -20}}, {-24, 10, [5]int64{-20, -20, -30, -30, -20}}, {-25, 10, [5]int64{-30, -20, -30, -30, -20}}, {-26, 10, [5]int64{-30, -20, -30, -30, -20}}, {-29, 10, [5]int64{-30, -20, -30, -30, -20}},
		{1, 10, [5]int64{0, 0, 10, 0, 10}}, {4, 10, [5]int64{0, 0, 10, 0, 10}}, {5, 10, [5]int64{10, 0, 10, 0, 10}}, {9, 10, [5]int64{10, 0, 10, 0, 10}},
		{-1, 10, [5]int64{0, 0, -10, -10, 0}}, {-4, 10, [5]int64{0, 0, -10, -10, 0}}, {-5, 10, [5]int64{-10, 0, -10, -10, 0}}, {-9, 10, [5]int64{-10, 0, -10, -10, 0}},
		{15, 10, [5]int64{20, 10, 20, 10, 20}}, {-15, 10, [5]int64{-20, -10, -20, -20, -10}}, // not the even one
		{7, 7, [5]int64{7, 7, 7, 7, 7}}, {8, 7, [5]int64{7, 7, 14, 7, 14}}, {10, 7, [5]int64{7, 7, 14, 7, 14}}, {11, 7, [5]int64{14, 7, 14, 7, 14}}, {13, 7, [5]int64{14, 7, 14, 7, 14}}, // no middle
		{-8, 7, [5]int64{-7, -7, -14, -14, -7}}, {-10, 7, [5]int64{-7, -7, -14, -14, -7}}, {-11, 7, [5]int64{-14, -7, -14, -14, -7}}, {-13, 7, [5]int64{-14, -7, -14, -14, -7}},
		{1, 2, [5]int64{2, 0, 2, 0, 2}}, {-1, 2, [5]int64{-2, 0, -2, -2, 0}}, {3, 2, [5]int64{4, 2, 4, 2, 4}}, {-3, 2, [5]int64{-4, -2, -4, -4, -2}},
		{1, 3, [5]int64{0, 0, 3, 0, 3}}, {2, 3, [5]int64{3, 0, 3, 0, 3}}, {-1, 3, [5]int64{0, 0, -3, -3, 0}}, {-2, 3, [5]int64{-3, 0, -3, -3, 0}},
		{12345, 1, [5]int64{12345, 12345, 12345, 12345, 12345}}, {-12345, 1, [5]int64{-12345, -12345, -12345, -12345, -12345}},
		{25000, 10000, [5]int64{30000, 20000, 30000, 20000, 30000}}, {-25000, 10000, [5]int64{-30000, -20000, -30000, -30000, -20000}},
		{24999, 10000, [5]int64{20000, 20000, 30000, 20000, 30000}}, {-24999, 10000, [5]int64{-20000, -20000, -30000, -30000, -20000}},
		{3333, 2500, [5]int64{2500, 2500, 5000, 2500, 5000}}, {3750, 2500, [5]int64{5000, 2500, 5000, 2500, 5000}}, {3749, 2500, [5]int64{2500, 2500, 5000, 2500, 5000}},
	})
}

// TestStepAtTheEnds rounds the greatest decimal and the least one, and what is near them, also to where there is no room any more.
func TestStepAtTheEnds(t *testing.T) {
	askStep(t, []stepped{
		{most, 1, [5]int64{most, most, most, most, most}}, {least, 1, [5]int64{least, least, least, least, least}},
		{most, 7, [5]int64{most, most, most, most, most}}, {least, 7, [5]int64{least, least, least, least, least}}, // 2^63 - 1 is a multiple of 7
		{most, 2, [5]int64{none, most - 1, none, most - 1, none}}, {least, 2, [5]int64{none, least + 1, none, none, least + 1}}, // the next one would be 2^63
		{most - 1, 2, [5]int64{most - 1, most - 1, most - 1, most - 1, most - 1}}, {least + 1, 2, [5]int64{least + 1, least + 1, least + 1, least + 1, least + 1}},
		{most, 10000, [5]int64{none, 9223372036854770000, none, 9223372036854770000, none}}, {least, 10000, [5]int64{none, -9223372036854770000, none, none, -9223372036854770000}},
		{9223372036854774999, 10000, [5]int64{9223372036854770000, 9223372036854770000, none, 9223372036854770000, none}}, {-9223372036854774999, 10000, [5]int64{-9223372036854770000, -9223372036854770000, none, none, -9223372036854770000}},
		{9223372036854775000, 10000, [5]int64{none, 9223372036854770000, none, 9223372036854770000, none}}, {-9223372036854775000, 10000, [5]int64{none, -9223372036854770000, none, none, -9223372036854770000}},
		{most, 1000000000000000000, [5]int64{9000000000000000000, 9000000000000000000, none, 9000000000000000000, none}}, {least, 1000000000000000000, [5]int64{-9000000000000000000, -9000000000000000000, none, none, -9000000000000000000}},
		{most, most, [5]int64{most, most, most, most, most}}, {least, most, [5]int64{least, least, least, least, least}},
		{most, most - 1, [5]int64{most - 1, most - 1, none, most - 1, none}}, {least, most - 1, [5]int64{least + 1, least + 1, none, none, least + 1}},
		{most - 1, most, [5]int64{most, 0, most, 0, most}}, {least + 1, most, [5]int64{least, 0, least, least, 0}},
		{1, most, [5]int64{0, 0, most, 0, most}}, {-1, most, [5]int64{0, 0, least, least, 0}}, {0, most, [5]int64{0, 0, 0, 0, 0}},
		{4611686018427387903, most, [5]int64{0, 0, most, 0, most}}, {4611686018427387904, most, [5]int64{most, 0, most, 0, most}}, // about the middle
		{-4611686018427387903, most, [5]int64{0, 0, least, least, 0}}, {-4611686018427387904, most, [5]int64{least, 0, least, least, 0}},
		{4611686018427387902, most - 1, [5]int64{0, 0, most - 1, 0, most - 1}}, {4611686018427387903, most - 1, [5]int64{most - 1, 0, most - 1, 0, most - 1}},
		{-4611686018427387902, most - 1, [5]int64{0, 0, least + 1, least + 1, 0}}, {-4611686018427387903, most - 1, [5]int64{least + 1, 0, least + 1, least + 1, 0}},
		{most, 1 << 62, [5]int64{none, 1 << 62, none, 1 << 62, none}}, {least, 1 << 62, [5]int64{none, -1 << 62, none, none, -1 << 62}},
		{most - 1, 6148914691236517204, [5]int64{none, 6148914691236517204, none, 6148914691236517204, none}}, // in the middle
		{most - 2, 6148914691236517204, [5]int64{6148914691236517204, 6148914691236517204, none, 6148914691236517204, none}},
		{most, 6148914691236517205, [5]int64{6148914691236517205, 6148914691236517205, none, 6148914691236517205, none}}, // half of 1 ahead of the middle
	})
}

// TestNoStep hands in steps that are none, what may not be, and modes that are none.
func TestNoStep(t *testing.T) {
	for _, x := range edges() {
		for _, mode := range modes {
			for _, step := range []int64{0, -1, -2, -10000, least, least + 1, none} {
				nothing(t, "Step", x, step, int64(mode))(Step(x, step, mode))
			}
		}
		for _, mode := range noModes {
			for _, step := range []int64{1, 2, 7, 10000, most, 0, -1, none} {
				nothing(t, "Step", x, step, int64(mode))(Step(x, step, mode))
			}
			for places := -15; places <= 5; places++ {
				nothing(t, "Places", x, int64(places), int64(mode))(Places(x, places, mode))
			}
		}
	}
}

// TestWhatMayNotBe hands the least number of 64 bits in as each decimal of each call.
func TestWhatMayNotBe(t *testing.T) {
	nothing(t, "Int")(Int(none))
	nothing(t, "Even")(Even(none))
	nothing(t, "Odd")(Odd(none))
	for _, x := range edges() {
		for _, mode := range modes {
			nothing(t, "Step of what may not be", x)(Step(none, x, mode))
			nothing(t, "Step by what may not be", x)(Step(x, none, mode))
			for places := -16; places <= 6; places++ {
				nothing(t, "Places", int64(places))(Places(none, places, mode))
			}
		}
		nothing(t, "Mod of what may not be", x)(Mod(none, x))
		nothing(t, "Mod by what may not be", x)(Mod(x, none))
		nothing(t, "Quot of what may not be", x)(Quot(none, x))
		nothing(t, "Quot by what may not be", x)(Quot(x, none))
	}
}

func TestPlaces(t *testing.T) {
	for _, x := range []struct {
		x      int64
		places int
		want   [5]int64
	}{
		{12345, 4, [5]int64{12345, 12345, 12345, 12345, 12345}}, {-12345, 4, [5]int64{-12345, -12345, -12345, -12345, -12345}},
		{12345, 3, [5]int64{12350, 12340, 12350, 12340, 12350}}, {-12345, 3, [5]int64{-12350, -12340, -12350, -12350, -12340}}, {12344, 3, [5]int64{12340, 12340, 12350, 12340, 12350}},
		{12345, 2, [5]int64{12300, 12300, 12400, 12300, 12400}}, {-12345, 2, [5]int64{-12300, -12300, -12400, -12400, -12300}}, {12350, 2, [5]int64{12400, 12300, 12400, 12300, 12400}},
		{12345, 1, [5]int64{12000, 12000, 13000, 12000, 13000}}, {-12345, 1, [5]int64{-12000, -12000, -13000, -13000, -12000}},
		{12345, 0, [5]int64{10000, 10000, 20000, 10000, 20000}}, {-12345, 0, [5]int64{-10000, -10000, -20000, -20000, -10000}}, {15000, 0, [5]int64{20000, 10000, 20000, 10000, 20000}},
		{12345, -1, [5]int64{0, 0, 100000, 0, 100000}}, {-12345, -1, [5]int64{0, 0, -100000, -100000, 0}}, {50000, -1, [5]int64{100000, 0, 100000, 0, 100000}}, {-50000, -1, [5]int64{-100000, 0, -100000, -100000, 0}}, {49999, -1, [5]int64{0, 0, 100000, 0, 100000}},
		{12345, 5, [5]int64{12345, 12345, 12345, 12345, 12345}}, {-12345, 5, [5]int64{-12345, -12345, -12345, -12345, -12345}}, {-12345, 6, [5]int64{-12345, -12345, -12345, -12345, -12345}},
		{most, math.MaxInt, [5]int64{most, most, most, most, most}}, {least, math.MaxInt, [5]int64{least, least, least, least, least}}, {0, math.MaxInt, [5]int64{0, 0, 0, 0, 0}}, {1, 1 << 32, [5]int64{1, 1, 1, 1, 1}},
		{most, -14, [5]int64{9000000000000000000, 9000000000000000000, none, 9000000000000000000, none}}, {least, -14, [5]int64{-9000000000000000000, -9000000000000000000, none, none, -9000000000000000000}},
		{1, -14, [5]int64{0, 0, 1000000000000000000, 0, 1000000000000000000}}, {-1, -14, [5]int64{0, 0, -1000000000000000000, -1000000000000000000, 0}}, {0, -14, [5]int64{0, 0, 0, 0, 0}},
		{500000000000000000, -14, [5]int64{1000000000000000000, 0, 1000000000000000000, 0, 1000000000000000000}}, {499999999999999999, -14, [5]int64{0, 0, 1000000000000000000, 0, 1000000000000000000}},
		{most, -13, [5]int64{9200000000000000000, 9200000000000000000, none, 9200000000000000000, none}},
		{0, -15, [5]int64{none, none, none, none, none}}, {1, -15, [5]int64{none, none, none, none, none}}, {most, -15, [5]int64{none, none, none, none, none}}, {-12345, -16, [5]int64{none, none, none, none, none}},
		{0, math.MinInt, [5]int64{none, none, none, none, none}}, {1, math.MinInt, [5]int64{none, none, none, none, none}}, {1, math.MinInt + 4, [5]int64{none, none, none, none, none}}, {1, math.MinInt + 5, [5]int64{none, none, none, none, none}}, {least, -1 << 32, [5]int64{none, none, none, none, none}},
	} {
		askModes(t, fmt.Sprintf("Places of %d and %d", x.x, x.places), x.want, func(mode int) (int64, bool) { return Places(x.x, x.places, mode) })
	}
}

// one is what is asked of a call of one decimal.
type one struct {
	x, want int64
	ok      bool
}

// askOne holds a call of one decimal against what is asked of it.
func askOne(t *testing.T, name string, call func(int64) (int64, bool), l []one) {
	t.Helper()
	for _, x := range l {
		if got, ok := call(x.x); got != x.want || ok != x.ok {
			t.Errorf("%s(%d): %d, %v; not %d, %v", name, x.x, got, ok, x.want, x.ok)
		}
	}
}

func TestInt(t *testing.T) {
	askOne(t, "Int", Int, []one{
		{0, 0, true}, {1, 0, true}, {5000, 0, true}, {9999, 0, true}, {10000, 10000, true}, {10001, 10000, true}, {19999, 10000, true}, {25000, 20000, true},
		{-1, -10000, true}, {-5000, -10000, true}, {-9999, -10000, true}, {-10000, -10000, true}, {-10001, -20000, true}, {-25000, -30000, true},
		{most, 9223372036854770000, true}, {9223372036854770000, 9223372036854770000, true}, {9223372036854769999, 9223372036854760000, true},
		{-9223372036854770000, -9223372036854770000, true}, {-9223372036854769999, -9223372036854770000, true},
		{-9223372036854770001, 0, false}, {least, 0, false}, {none, 0, false},
	})
}

func TestStepOfAllEdges(t *testing.T) {
	for _, x := range edges() {
		for _, step := range edges() {
			holdStep(t, x, step)
		}
	}
}

// TestStepOfAllSmall has each rest of even and of odd steps, with each sign.
func TestStepOfAllSmall(t *testing.T) {
	for _, x := range small(150) {
		for step := int64(-3); step <= 40; step++ {
			holdStep(t, x, step)
		}
	}
}

// TestStepAboutMultiples rounds what is about a multiple of a step, and about the middle of two.
func TestStepAboutMultiples(t *testing.T) {
	for _, step := range append(someNumbers(1000), 2, 3, 10000, 10001, 1000000000000000000, most/3, most/2, most-1, most) {
		step = max(step, 1)
		for _, times := range []int64{0, 1, 2, 3, most/step - 1, most / step} {
			if times > most/step {
				continue
			}
			for _, beside := range []int64{0, step / 2, step - step/2} {
				for i := int64(-1); i <= 1; i++ {
					if x := times*step - beside + i; mayBe(x) && x > -step {
						holdStep(t, x, step)
						holdStep(t, -x, step)
					}
				}
			}
		}
	}
}

func TestStepOfSomeNumbers(t *testing.T) {
	l := someNumbers(40000)
	for i := 0; i < len(l); i += 2 {
		holdStep(t, l[i], l[i+1])
	}
}

// TestPlacesOfAllPlaces goes from beyond the fewest places to beyond the most.
func TestPlacesOfAllPlaces(t *testing.T) {
	for _, x := range append(edges(), someNumbers(500)...) {
		for places := -20; places <= 10; places++ {
			holdPlaces(t, x, places)
		}
		for _, places := range []int{math.MaxInt, math.MaxInt - 1, math.MinInt, math.MinInt + 1, math.MinInt + 4, math.MinInt + 5, 1 << 32, -1 << 32, 64, -64, 255, 256} {
			holdPlaces(t, x, places)
		}
	}
}

// TestPlacesAboutMiddles rounds what is about the middle of two multiples, of each number of places.
func TestPlacesAboutMiddles(t *testing.T) {
	step := int64(1)
	for places := 4; places >= -14; places-- {
		for times := int64(0); times <= 9; times++ {
			for i := int64(-1); i <= 1; i++ {
				if times == 9 && places == -14 {
					continue
				}
				holdPlaces(t, times*step+step/2+i, places)
				holdPlaces(t, -times*step-step/2-i, places)
			}
		}
		if places > -14 {
			step *= 10
		}
	}
}

// P9.2

// two is what is asked of Mod and of Quot.
type two struct {
	a, b, mod, quot int64
	mods, quots     bool
}

// askTwo holds Mod and Quot against what is asked of them.
func askTwo(t *testing.T, l []two) {
	t.Helper()
	for _, x := range l {
		if got, ok := Mod(x.a, x.b); got != x.mod || ok != x.mods {
			t.Errorf("Mod(%d, %d): %d, %v; not %d, %v", x.a, x.b, got, ok, x.mod, x.mods)
		}
		if got, ok := Quot(x.a, x.b); got != x.quot || ok != x.quots {
			t.Errorf("Quot(%d, %d): %d, %v; not %d, %v", x.a, x.b, got, ok, x.quot, x.quots)
		}
	}
}

func TestModAndQuot(t *testing.T) {
	askTwo(t, []two{
		{70000, 30000, 10000, 20000, true, true}, {-70000, 30000, 20000, -20000, true, true}, {70000, -30000, -20000, -20000, true, true}, {-70000, -30000, -10000, 20000, true, true},
		{60000, 30000, 0, 20000, true, true}, {-60000, 30000, 0, -20000, true, true}, {60000, -30000, 0, -20000, true, true}, {-60000, -30000, 0, 20000, true, true},
		{10000, 30000, 10000, 0, true, true}, {-10000, 30000, 20000, 0, true, true}, {10000, -30000, -20000, 0, true, true}, {-10000, -30000, -10000, 0, true, true},
		{25000, 10000, 5000, 20000, true, true}, {-25000, 10000, 5000, -20000, true, true}, {25000, -10000, -5000, -20000, true, true}, {-25000, -10000, -5000, 20000, true, true},
		{55000, 15000, 10000, 30000, true, true}, {-55000, 15000, 5000, -30000, true, true}, {1, 3, 1, 0, true, true}, {-1, 3, 2, 0, true, true}, {1, -3, -2, 0, true, true}, {-1, -3, -1, 0, true, true},
		{7, 3, 1, 20000, true, true}, {3, 3, 0, 10000, true, true}, {2, 3, 2, 0, true, true}, {-2, 3, 1, 0, true, true}, {-3, 3, 0, -10000, true, true}, {-4, 3, 2, -10000, true, true},
		{0, 1, 0, 0, true, true}, {0, -1, 0, 0, true, true}, {0, 10000, 0, 0, true, true}, {0, most, 0, 0, true, true}, {0, least, 0, 0, true, true},
		{5, 1, 0, 50000, true, true}, {5, -1, 0, -50000, true, true}, {-5, 1, 0, -50000, true, true}, {-5, -1, 0, 50000, true, true},
	})
}

// TestModAndQuotAtTheEnds has what is left where there is no room for the quotient.
func TestModAndQuotAtTheEnds(t *testing.T) {
	askTwo(t, []two{
		{922337203685477, 1, 0, 9223372036854770000, true, true}, {922337203685478, 1, 0, 0, true, false}, {-922337203685477, 1, 0, -9223372036854770000, true, true}, {-922337203685478, 1, 0, 0, true, false},
		{922337203685477, -1, 0, -9223372036854770000, true, true}, {922337203685478, -1, 0, 0, true, false}, {-922337203685477, -1, 0, 9223372036854770000, true, true}, {-922337203685478, -1, 0, 0, true, false},
		{1844674407370955, 2, 1, 9223372036854770000, true, true}, {1844674407370956, 2, 0, 0, true, false}, {-1844674407370955, 2, 1, -9223372036854770000, true, true}, {-1844674407370956, 2, 0, 0, true, false},
		{most, 1, 0, 0, true, false}, {least, 1, 0, 0, true, false}, {most, -1, 0, 0, true, false}, {least, -1, 0, 0, true, false},
		{most, 2, 1, 0, true, false}, {least, 2, 1, 0, true, false}, {most, -2, -1, 0, true, false}, {least, -2, -1, 0, true, false},
		{most, 10000, 5807, 9223372036854770000, true, true}, {least, 10000, 4193, -9223372036854770000, true, true}, {most, -10000, -4193, -9223372036854770000, true, true}, {least, -10000, -5807, 9223372036854770000, true, true},
		{most, 9999, 5947, 0, true, false}, {most, most, 0, 10000, true, true}, {least, most, 0, -10000, true, true}, {most, least, 0, -10000, true, true}, {least, least, 0, 10000, true, true},
		{most - 1, most, most - 1, 0, true, true}, {least + 1, most, 1, 0, true, true}, {most - 1, least, -1, 0, true, true}, {least + 1, least, least + 1, 0, true, true},
		{1, most, 1, 0, true, true}, {-1, most, most - 1, 0, true, true}, {1, least, least + 1, 0, true, true}, {-1, least, -1, 0, true, true},
		{most, most - 1, 1, 10000, true, true}, {least, most - 1, most - 2, -10000, true, true}, {most, least + 1, least + 2, -10000, true, true}, {least, least + 1, -1, 10000, true, true},
		{0, 0, 0, 0, false, false}, {1, 0, 0, 0, false, false}, {-1, 0, 0, 0, false, false}, {10000, 0, 0, 0, false, false}, {most, 0, 0, 0, false, false}, {least, 0, 0, 0, false, false}, {none, 0, 0, 0, false, false},
		{none, 1, 0, 0, false, false}, {none, -1, 0, 0, false, false}, {1, none, 0, 0, false, false}, {0, none, 0, 0, false, false}, {most, none, 0, 0, false, false}, {none, none, 0, 0, false, false},
	})
}

func TestQuotientsOfAllEdges(t *testing.T) {
	for _, a := range edges() {
		for _, b := range edges() {
			holdQuotients(t, a, b)
		}
	}
}

func TestQuotientsOfAllSmall(t *testing.T) {
	for _, a := range small(120) {
		for _, b := range small(50) {
			holdQuotients(t, a, b)
		}
	}
}

func TestQuotientsOfSomeNumbers(t *testing.T) {
	l := someNumbers(40000)
	for i := 0; i < len(l); i += 2 {
		holdQuotients(t, l[i], l[i+1])
	}
}

// TestQuotientsAboutTheRoom has quotients about the greatest one that there is room for.
func TestQuotientsAboutTheRoom(t *testing.T) {
	for b := int64(1); b <= 10010; b++ {
		for _, times := range []int64{922337203685477, 922337203685478} {
			for i := int64(-1); i <= 1; i++ {
				if b <= most/times-1 {
					holdQuotients(t, times*b+i, b)
					holdQuotients(t, -times*b-i, b)
					holdQuotients(t, times*b+i, -b)
					holdQuotients(t, -times*b-i, -b)
				}
			}
		}
	}
}

// P9.3

func TestEven(t *testing.T) {
	askOne(t, "Even", Even, []one{
		{0, 0, true}, {1, 20000, true}, {5000, 20000, true}, {10000, 20000, true}, {19999, 20000, true}, {20000, 20000, true}, {20001, 40000, true}, {30000, 40000, true}, {40000, 40000, true}, {40001, 60000, true},
		{-1, -20000, true}, {-10000, -20000, true}, {-19999, -20000, true}, {-20000, -20000, true}, {-20001, -40000, true}, {-30000, -40000, true}, {-40000, -40000, true},
		{9223372036854740001, 9223372036854760000, true}, {9223372036854760000, 9223372036854760000, true}, {9223372036854760001, 0, false}, {9223372036854770000, 0, false}, {most, 0, false},
		{-9223372036854740001, -9223372036854760000, true}, {-9223372036854760000, -9223372036854760000, true}, {-9223372036854760001, 0, false}, {-9223372036854770000, 0, false}, {least, 0, false},
		{none, 0, false},
	})
}

func TestOdd(t *testing.T) {
	askOne(t, "Odd", Odd, []one{
		{0, 10000, true}, {1, 10000, true}, {5000, 10000, true}, {9999, 10000, true}, {10000, 10000, true}, {10001, 30000, true}, {20000, 30000, true}, {29999, 30000, true}, {30000, 30000, true}, {30001, 50000, true},
		{-1, -10000, true}, {-9999, -10000, true}, {-10000, -10000, true}, {-10001, -30000, true}, {-20000, -30000, true}, {-30000, -30000, true}, {-30001, -50000, true},
		{9223372036854750000, 9223372036854750000, true}, {9223372036854750001, 9223372036854770000, true}, {9223372036854760000, 9223372036854770000, true}, {9223372036854769999, 9223372036854770000, true}, {9223372036854770000, 9223372036854770000, true}, {9223372036854770001, 0, false}, {most, 0, false},
		{-9223372036854750000, -9223372036854750000, true}, {-9223372036854750001, -9223372036854770000, true}, {-9223372036854760000, -9223372036854770000, true}, {-9223372036854769999, -9223372036854770000, true}, {-9223372036854770000, -9223372036854770000, true}, {-9223372036854770001, 0, false}, {least, 0, false},
		{none, 0, false},
	})
}

func TestOneOfManyNumbers(t *testing.T) {
	for _, x := range append(edges(), append(small(60100), someNumbers(20000)...)...) {
		holdOne(t, x)
	}
	for i := int64(0); i <= 60000; i++ {
		holdOne(t, most-i)
		holdOne(t, least+i)
	}
}

// P9.4

// holdRounded holds what follows of what is rounded to a step.
func holdRounded(t *testing.T, x, step int64) {
	t.Helper()
	for _, mode := range modes {
		got, ok := Step(x, step, mode)
		if !ok {
			continue
		}
		if got%step != 0 {
			t.Errorf("Step(%d, %d, %d): %d is no multiple", x, step, mode, got)
		}
		away := new(big.Int).Sub(bigOf(got), bigOf(x))
		if away.CmpAbs(bigOf(step)) >= 0 {
			t.Errorf("Step(%d, %d, %d): %d is a step away", x, step, mode, got)
		}
		if mode == Half && away.Add(away, away).CmpAbs(bigOf(step)) > 0 {
			t.Errorf("Step(%d, %d, %d): %d is more than half of a step away", x, step, mode, got)
		}
		for _, again := range modes {
			if same, ok := Step(got, step, again); same != got || !ok {
				t.Errorf("Step(%d, %d, %d): %d, rounded again by %d, is %d, %v", x, step, mode, got, again, same, ok)
			}
		}
	}
}

// holdAgain holds that what is rounded to places, or to whole, even or odd numbers, stays.
func holdAgain(t *testing.T, x int64) {
	t.Helper()
	for name, call := range map[string]func(int64) (int64, bool){"Int": Int, "Even": Even, "Odd": Odd} {
		if got, ok := call(x); ok {
			if same, ok := call(got); same != got || !ok {
				t.Errorf("%s(%d): %d, rounded again, is %d, %v", name, x, got, same, ok)
			}
		}
	}
	for _, mode := range modes {
		for places := -14; places <= 5; places++ {
			if got, ok := Places(x, places, mode); ok {
				if same, ok := Places(got, places, mode); same != got || !ok {
					t.Errorf("Places(%d, %d, %d): %d, rounded again, is %d, %v", x, places, mode, got, same, ok)
				}
			}
		}
	}
}

func TestRoundedIsAMultipleThatStays(t *testing.T) {
	for _, x := range edges() {
		for _, step := range edges() {
			holdRounded(t, x, step)
		}
		holdAgain(t, x)
	}
	l := someNumbers(40000)
	for i := 0; i < len(l); i += 2 {
		holdRounded(t, l[i], l[i+1])
	}
	for _, x := range l[:2000] {
		holdAgain(t, x)
	}
}

// TestNoRoomIsBeyond holds that nothing is told where there is no room, and there alone: towards 0 there is always some.
func TestNoRoomIsBeyond(t *testing.T) {
	for _, x := range append(edges(), someNumbers(2000)...) {
		for _, step := range []int64{1, 2, 7, 10000, 20000, 1 << 62, most} {
			if _, ok := Step(x, step, Down); ok != mayBe(x) {
				t.Errorf("Step(%d, %d, Down): %v", x, step, ok)
			}
			if _, ok := Step(x, step, Floor); mayBe(x) && x >= 0 && !ok {
				t.Errorf("Step(%d, %d, Floor): none", x, step)
			}
			if _, ok := Step(x, step, Ceil); mayBe(x) && x <= 0 && !ok {
				t.Errorf("Step(%d, %d, Ceil): none", x, step)
			}
		}
	}
}

func FuzzAll(f *testing.F) {
	for _, x := range edges() {
		f.Add(x, int64(10000), 0)
		f.Add(most, x, -14)
		f.Add(x, x, 4)
	}
	f.Fuzz(func(t *testing.T, a, b int64, places int) {
		holdOne(t, a)
		holdStep(t, a, b)
		holdQuotients(t, a, b)
		holdRounded(t, a, b)
		holdPlaces(t, a, places)
		holdPlaces(t, a, places%16)
		nothing(t, "Step", a, b, int64(places))(Step(a, b, noMode(places)))
		nothing(t, "Places", a, b, int64(places))(Places(a, int(b), noMode(places)))
	})
}

// noMode is a number that is no mode: that one, if it is none.
func noMode(n int) int {
	if n >= Half && n <= Ceil {
		return -n
	}
	return n
}
