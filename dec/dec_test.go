package dec

import (
	"math"
	"math/big"
	"math/rand"
	"testing"
)

// The greatest decimal, the least one, and the one number of 64 bits that may not be.
const (
	most  = int64(9223372036854775807)
	least = int64(-9223372036854775807)
	none  = int64(math.MinInt64)
)

// mayBe is the document's word on which decimals may be.
func mayBe(x int64) bool { return x != none }

// bigOf is a number that may have any number of digits.
func bigOf(x int64) *big.Int { return big.NewInt(x) }

// told is the document's word on what a call answers from which exactly that comes out, if these are its arguments.
func told(out *big.Int, arguments ...int64) (int64, bool) {
	for _, x := range arguments {
		if !mayBe(x) {
			return 0, false
		}
	}
	if out == nil || !out.IsInt64() || !mayBe(out.Int64()) {
		return 0, false
	}
	return out.Int64(), true
}

// rounded is the document's word on the whole number that is nearest to n over d, of two such the one further from 0; nil, if d is 0.
func rounded(n, d *big.Int) *big.Int {
	if d.Sign() == 0 {
		return nil
	}
	var nearest, miss *big.Int
	cut := new(big.Int).Quo(n, d)
	for i := int64(-1); i <= 1; i++ {
		near := new(big.Int).Add(cut, bigOf(i))
		far := new(big.Int).Mul(near, d)
		far.Abs(far.Sub(far, n))
		if miss == nil || far.Cmp(miss) < 0 || far.Cmp(miss) == 0 && near.CmpAbs(nearest) > 0 {
			nearest, miss = near, far
		}
	}
	return nearest
}

// scaledByWords is the document's word on a times b over c.
func scaledByWords(a, b, c int64) (int64, bool) {
	return told(rounded(new(big.Int).Mul(bigOf(a), bigOf(b)), bigOf(c)), a, b, c)
}

// edges is numbers about 0, the half and the whole of 10000 ten-thousandths, powers of 2 and of 10, the root of the greatest decimal, the whole numbers at the edge of the room of decimals, and both ends of 64 bits.
func edges() []int64 {
	l := []int64{none}
	for _, x := range []int64{0, 5000, 10000, 1 << 31, 1 << 32, 3037000500, 1 << 53, 922337203685477, 1000000000000000000, 1 << 62, 9223372036854770000, most - 1} {
		for i := int64(-1); i <= 1; i++ {
			l = append(l, x+i, -x-i)
		}
	}
	return append(l, 2, -2, 3, -3, 4, -4, 7, -7, 9, -9, 15, -15, 25000, -25000)
}

// small is all numbers that are no further from 0 than so many.
func small(far int64) []int64 {
	l := []int64{}
	for x := -far; x <= far; x++ {
		l = append(l, x)
	}
	return l
}

// someNumbers is numbers of any size and sign, as many of few bits as of many.
func someNumbers(count int) []int64 {
	chance := rand.New(rand.NewSource(8))
	l := []int64{}
	for range count {
		l = append(l, int64(chance.Uint64())>>chance.Intn(64))
	}
	return l
}

// two is a call of two decimals.
type two func(a, b int64) (int64, bool)

// answer is what is asked of a call of two decimals.
type answer struct {
	a, b, want int64
	ok         bool
}

// ask holds a call of two decimals against what is asked of it.
func ask(t *testing.T, name string, call two, l []answer) {
	t.Helper()
	for _, x := range l {
		if got, ok := call(x.a, x.b); got != x.want || ok != x.ok {
			t.Errorf("%s(%d, %d): %d, %v; not %d, %v", name, x.a, x.b, got, ok, x.want, x.ok)
		}
	}
}

// holdSums holds all calls of sums of two numbers against the document's words.
func holdSums(t *testing.T, a, b int64) {
	t.Helper()
	want, wantOk := told(new(big.Int).Add(bigOf(a), bigOf(b)), a, b)
	if got, ok := Add(a, b); got != want || ok != wantOk {
		t.Errorf("Add(%d, %d): %d, %v; not %d, %v", a, b, got, ok, want, wantOk)
	}
	want, wantOk = told(new(big.Int).Sub(bigOf(a), bigOf(b)), a, b)
	if got, ok := Sub(a, b); got != want || ok != wantOk {
		t.Errorf("Sub(%d, %d): %d, %v; not %d, %v", a, b, got, ok, want, wantOk)
	}
}

// holdProducts holds Mul and Div of two numbers against the document's words.
func holdProducts(t *testing.T, a, b int64) {
	t.Helper()
	want, wantOk := scaledByWords(a, b, 10000)
	if got, ok := Mul(a, b); got != want || ok != wantOk {
		t.Errorf("Mul(%d, %d): %d, %v; not %d, %v", a, b, got, ok, want, wantOk)
	}
	want, wantOk = scaledByWords(a, 10000, b)
	if got, ok := Div(a, b); got != want || ok != wantOk {
		t.Errorf("Div(%d, %d): %d, %v; not %d, %v", a, b, got, ok, want, wantOk)
	}
}

// holdScaled holds Scaled of three numbers against the document's words.
func holdScaled(t *testing.T, a, b, c int64) {
	t.Helper()
	want, wantOk := scaledByWords(a, b, c)
	if got, ok := Scaled(a, b, c); got != want || ok != wantOk {
		t.Errorf("Scaled(%d, %d, %d): %d, %v; not %d, %v", a, b, c, got, ok, want, wantOk)
	}
}

// holdOne holds the calls of one number against the document's words.
func holdOne(t *testing.T, x int64) {
	t.Helper()
	if May(x) != mayBe(x) {
		t.Errorf("May(%d): not %v", x, mayBe(x))
	}
	want, wantOk := told(new(big.Int).Mul(bigOf(x), bigOf(10000)), x)
	if got, ok := Of(x); got != want || ok != wantOk {
		t.Errorf("Of(%d): %d, %v; not %d, %v", x, got, ok, want, wantOk)
	}
	want, wantOk = told(new(big.Int).Neg(bigOf(x)), x)
	if got, ok := Neg(x); got != want || ok != wantOk {
		t.Errorf("Neg(%d): %d, %v; not %d, %v", x, got, ok, want, wantOk)
	}
	cut, rest := new(big.Int).QuoRem(bigOf(x), bigOf(10000), new(big.Int))
	units, whole := int64(0), false
	if mayBe(x) {
		units, whole = cut.Int64(), rest.Sign() == 0
	}
	if Units(x) != units {
		t.Errorf("Units(%d): %d, not %d", x, Units(x), units)
	}
	if Whole(x) != whole {
		t.Errorf("Whole(%d): not %v", x, whole)
	}
	if mayBe(x) && Sign(x) != bigOf(x).Sign() {
		t.Errorf("Sign(%d): %d", x, Sign(x))
	}
}

// P8.1

func TestMay(t *testing.T) {
	for _, x := range []int64{0, 1, -1, 10000, -10000, math.MaxInt32, math.MinInt32, most - 1, most, least + 1, least} {
		if !May(x) {
			t.Errorf("%d may not be", x)
		}
	}
	if May(none) {
		t.Error("the least number of 64 bits may be")
	}
}

func TestOf(t *testing.T) {
	for _, x := range []struct {
		n, want int64
		ok      bool
	}{
		{0, 0, true}, {1, 10000, true}, {-1, -10000, true}, {12, 120000, true}, {-250, -2500000, true},
		{922337203685476, 9223372036854760000, true}, {-922337203685476, -9223372036854760000, true},
		{922337203685477, 9223372036854770000, true}, {-922337203685477, -9223372036854770000, true},
		{922337203685478, 0, false}, {-922337203685478, 0, false},
		{1844674407370955, 0, false}, {-1844674407370955, 0, false}, // 10000 times these are near 2^64: wrapped round they are small
		{1844674407370956, 0, false}, {-1844674407370956, 0, false},
		{1 << 60, 0, false}, {-1 << 60, 0, false}, // and 10000 times these are wrapped round to 0
		{most, 0, false}, {least, 0, false}, {none, 0, false},
	} {
		if got, ok := Of(x.n); got != x.want || ok != x.ok {
			t.Errorf("Of(%d): %d, %v", x.n, got, ok)
		}
	}
}

func TestAdd(t *testing.T) {
	ask(t, "Add", Add, []answer{
		{0, 0, 0, true}, {1, 2, 3, true}, {10000, -2500, 7500, true}, {-10000, 2500, -7500, true}, {-1, -2, -3, true},
		{5, -5, 0, true}, {-5, 5, 0, true}, {most, least, 0, true}, {least, most, 0, true},
		{most, 0, most, true}, {0, most, most, true}, {least, 0, least, true}, {0, least, least, true},
		{most - 1, 1, most, true}, {1, most - 1, most, true}, {least + 1, -1, least, true}, {-1, least + 1, least, true},
		{most, -1, most - 1, true}, {least, 1, least + 1, true},
		{most, 1, 0, false}, {1, most, 0, false}, {most - 1, 2, 0, false}, {most, most, 0, false},
		{least, -1, 0, false}, {-1, least, 0, false}, {least + 1, -2, 0, false}, {least, least, 0, false}, // the first of these would be the least number of 64 bits
		{1 << 62, 1<<62 - 1, most, true}, {1 << 62, 1 << 62, 0, false},
		{-1 << 62, -1<<62 + 1, least, true}, {-1 << 62, -1 << 62, 0, false},
		{none, 0, 0, false}, {0, none, 0, false}, {none, 1, 0, false}, {1, none, 0, false}, {none, most, 0, false}, {most, none, 0, false},
		{none, -1, 0, false}, {-1, none, 0, false}, {none, least, 0, false}, {least, none, 0, false}, {none, none, 0, false},
	})
}

func TestSub(t *testing.T) {
	ask(t, "Sub", Sub, []answer{
		{0, 0, 0, true}, {1, 2, -1, true}, {3, 2, 1, true}, {10000, -2500, 12500, true}, {-10000, 2500, -12500, true}, {-1, -2, 1, true},
		{5, 5, 0, true}, {-5, -5, 0, true}, {most, most, 0, true}, {least, least, 0, true},
		{most, 0, most, true}, {0, most, least, true}, {least, 0, least, true}, {0, least, most, true},
		{most - 1, -1, most, true}, {-1, most - 1, least, true}, {least + 1, 1, least, true}, {1, least + 1, most, true},
		{most, 1, most - 1, true}, {least, -1, least + 1, true}, {-1, least, most - 1, true}, {1, most, least + 1, true},
		{most, -1, 0, false}, {1, least, 0, false}, {most - 1, -2, 0, false}, {most, least, 0, false},
		{least, 1, 0, false}, {-1, most, 0, false}, {least + 1, 2, 0, false}, {least, most, 0, false}, // the first two of these would be the least number of 64 bits
		{none, 0, 0, false}, {0, none, 0, false}, {none, 1, 0, false}, {1, none, 0, false}, {none, most, 0, false}, {most, none, 0, false},
		{none, -1, 0, false}, {-1, none, 0, false}, {none, least, 0, false}, {least, none, 0, false}, {none, none, 0, false},
	})
}

func TestNeg(t *testing.T) {
	for _, x := range []struct {
		x, want int64
		ok      bool
	}{
		{0, 0, true}, {1, -1, true}, {-1, 1, true}, {10000, -10000, true}, {-25000, 25000, true},
		{most, least, true}, {least, most, true}, {most - 1, least + 1, true}, {least + 1, most - 1, true},
		{none, 0, false},
	} {
		if got, ok := Neg(x.x); got != x.want || ok != x.ok {
			t.Errorf("Neg(%d): %d, %v", x.x, got, ok)
		}
	}
}

func TestSumsOfAllEdges(t *testing.T) {
	for _, a := range edges() {
		for _, b := range edges() {
			holdSums(t, a, b)
		}
	}
}

// TestSumsAboutTheEnds adds to each of some numbers what is just missing up to the greatest decimal and down to the least one, and some more or less.
func TestSumsAboutTheEnds(t *testing.T) {
	for _, a := range someNumbers(2000) {
		for i := int64(-2); i <= 2; i++ {
			holdSums(t, a, most-max(a, 0)+min(i, max(a, 0)))
			holdSums(t, a, least-min(a, 0)+max(i, min(a, 0)))
		}
	}
}

// TestWhatMayNotBe hands the least number of 64 bits in as each argument of each call that answers a bool beside a number.
func TestWhatMayNotBe(t *testing.T) {
	is := func(name string, a, b int64) func(int64, bool) {
		return func(got int64, ok bool) {
			t.Helper()
			if got != 0 || ok {
				t.Errorf("%s of what may not be, %d and %d: %d, %v", name, a, b, got, ok)
			}
		}
	}
	is("Of", 0, 0)(Of(none))
	is("Neg", 0, 0)(Neg(none))
	for _, a := range edges() {
		for name, call := range map[string]two{"Add": Add, "Sub": Sub, "Mul": Mul, "Div": Div} {
			is(name, a, none)(call(a, none))
			is(name, none, a)(call(none, a))
		}
		for _, b := range edges() {
			is("Scaled", a, b)(Scaled(none, a, b))
			is("Scaled", a, b)(Scaled(a, none, b))
			is("Scaled", a, b)(Scaled(a, b, none))
		}
	}
}

// P8.2

// triple is what is asked of Scaled.
type triple struct {
	a, b, c, want int64
	ok            bool
}

// askScaled holds Scaled against what is asked of it, with each sign of each argument.
func askScaled(t *testing.T, l []triple) {
	t.Helper()
	for _, x := range l {
		for signs := range 8 {
			a, b, c, want := x.a, x.b, x.c, x.want
			if signs&1 != 0 {
				a, want = -a, -want
			}
			if signs&2 != 0 {
				b, want = -b, -want
			}
			if signs&4 != 0 {
				c, want = -c, -want
			}
			if got, ok := Scaled(a, b, c); got != want || ok != x.ok {
				t.Errorf("Scaled(%d, %d, %d): %d, %v; not %d, %v", a, b, c, got, ok, want, x.ok)
			}
			if got, ok := Scaled(b, a, c); got != want || ok != x.ok {
				t.Errorf("Scaled(%d, %d, %d): %d, %v; not %d, %v", b, a, c, got, ok, want, x.ok)
			}
		}
	}
}

func TestScaled(t *testing.T) {
	askScaled(t, []triple{
		{2, 3, 1, 6, true}, {2, 3, 6, 1, true}, {10, 10, 20, 5, true}, {6, 7, 42, 1, true},
		{1, 1, 3, 0, true}, {1, 2, 3, 1, true}, {1, 4, 3, 1, true}, {5, 1, 3, 2, true},
		{0, 5, 3, 0, true}, {0, 0, 3, 0, true}, {0, most, most, 0, true}, {0, 7, 1, 0, true}, {1, 1, most, 0, true},
		{12345, 10000, 10000, 12345, true}, {12345, 1, 10000, 1, true}, {15000, 1, 10000, 2, true}, {14999, 1, 10000, 1, true},
		{most, 1, 1, most, true}, {most, most, most, most, true}, {most, 10000, 10000, most, true},
		{most, 1, most, 1, true}, {most, 2, most, 2, true}, {most - 1, most, most, most - 1, true}, {most - 1, most - 1, most, most - 2, true},
		{most, most, most - 1, 0, false}, {most, 2, 1, 0, false}, {most, most, 1, 0, false}, {most, 10001, 10000, 0, false},
		{most, 1, 10000, 922337203685478, true}, {most - 808, 1, 10000, 922337203685477, true}, // 922337203685477.4999
	})
}

func TestScaledOverNothing(t *testing.T) {
	for _, a := range edges() {
		for _, b := range edges() {
			if got, ok := Scaled(a, b, 0); got != 0 || ok {
				t.Errorf("Scaled(%d, %d, 0): %d, %v", a, b, got, ok)
			}
		}
		if got, ok := Div(a, 0); got != 0 || ok {
			t.Errorf("Div(%d, 0): %d, %v", a, got, ok)
		}
	}
}

// TestHalves asks for rests that are just below a half, a half, and just above it, of divisors that are even and odd, small and great.
func TestHalves(t *testing.T) {
	askScaled(t, []triple{
		{1, 1, 2, 1, true}, {3, 1, 2, 2, true}, {5, 1, 2, 3, true}, {7, 1, 2, 4, true}, // as far from 0 and 1: not the even one
		{1, 1, 4, 0, true}, {2, 1, 4, 1, true}, {3, 1, 4, 1, true}, {9, 1, 4, 2, true}, {10, 1, 4, 3, true}, {11, 1, 4, 3, true},
		{3, 1, 7, 0, true}, {4, 1, 7, 1, true}, {10, 1, 7, 1, true}, {11, 1, 7, 2, true},
		{4999, 1, 10000, 0, true}, {5000, 1, 10000, 1, true}, {5001, 1, 10000, 1, true}, {2500, 2, 10000, 1, true}, {2499, 2, 10000, 0, true},
		{14999, 1, 10000, 1, true}, {15000, 1, 10000, 2, true}, {24999, 1, 10000, 2, true}, {25000, 1, 10000, 3, true},
		{1, 4611686018427387903, most, 0, true}, {1, 4611686018427387904, most, 1, true}, // of an odd divisor no rest is a half
		{2, 6917529027641081855, most, 1, true}, {11, 1257732550480196701, most, 2, true},
		{1, 4611686018427387902, most - 1, 0, true}, {1, 4611686018427387903, most - 1, 1, true}, {3, 4611686018427387903, most - 1, 2, true},
		{1 << 61, 1, 1 << 62, 1, true}, {1<<61 - 1, 1, 1 << 62, 0, true}, {1 << 61, 3, 1 << 62, 2, true}, {1 << 61, 5, 1 << 62, 3, true},
		{1 << 40, 1 << 60, 1 << 62, 1 << 38, true}, {1 << 30, 1 << 31, 1 << 62, 1, true}, {1<<30 - 1, 1 << 31, 1 << 62, 0, true},
	})
}

// TestScaledAboutTheGreatest asks for what comes out near the greatest decimal: products that need more than 64 bits on the way, with what is rounded to have room, just so, and what is rounded up to have none.
func TestScaledAboutTheGreatest(t *testing.T) {
	askScaled(t, []triple{
		{3, 6148914691236517205, 2, 0, false},           // the greatest and a half
		{4294967295, 4294967297, 2, 0, false},           // the same
		{13, 1418980313362273201, 2, most, true},        // a half less
		{2, most, 2, most, true},                        // just the greatest
		{4, 4611686018427387904, 2, 0, false},           // one more
		{11, 2515465100960393402, 3, most, true},        // a third more
		{311, 88971434439113593, 3, 0, false},           // two thirds more
		{663979, 41673179589361, 3, most - 1, true},     // two thirds less
		{4, 6917529027641081855, 3, most, true},         // a third less
		{13, 4966431096767956204, 7, most, true},        // three sevenths more
		{9, 4099276460824344803, 4, most, true},         // a quarter less
		{47, 784967832923810707, 4, most, true},         // a quarter more
		{5, 7378697629483820646, 4, 0, false},           // a half more
		{1182007, 78031450210149143, 10000, most, true}, // one ten-thousandth more
		{429396229, 214798626861131, 10000, most, true}, // 4999 of them
		{10200, 9042521604759584125, 10000, 0, false},   // 5000
		{168993667, 545782111282003, 10000, 0, false},   // 5001
		{10000, most, 10000, most, true},
		{10240, 9007199254740992000, 10000, 0, false},                    // a whole one
		{2014432789, 45786447119109, 10000, most, true},                  // a half less, but for one ten-thousandth
		{13000, 7094901566811366005, 10000, most, true},                  // a half less
		{986131, 93530900426563771, 10000, most - 1, true},               // one less, and one ten-thousandth more
		{4611686018427387904, most - 1, most, 4611686018427387903, true}, // with just less than a half of the divisor left
	})
}

// TestScaledAboutTwoToThe64 asks for what is about 2^64, also rounded up to that: of 64 bits nothing would be left.
func TestScaledAboutTwoToThe64(t *testing.T) {
	askScaled(t, []triple{
		{5, 7378697629483820646, 2, 0, false},
		{31, 1190112520884487201, 2, 0, false}, // half of one less
		{253921, 145295143558111, 2, 0, false}, // the same
		{9, 6148914691236517205, 3, 0, false},
		{311, 177942868878227186, 3, 0, false},
		{31000, 5950562604422436005, 10000, 0, false}, // the same
		{45721, 4034632679449170319, 10000, 0, false}, // one ten-thousandth less than that
		{33461, 5512908781479797859, 10000, 0, false}, // one ten-thousandth less
		{1 << 33, 1 << 31, 1, 0, false}, {1 << 33, 1 << 32, 2, 0, false}, {1 << 33, 1 << 32, 1, 0, false},
		{1 << 62, 1 << 62, 1 << 60, 0, false}, {1 << 62, 1 << 62, 1 << 61, 0, false}, {1 << 62, 1 << 62, 1<<61 + 1, 1<<63 - 4, true},
		{most, most, 2, 0, false}, {most, most, 10000, 0, false}, {most, 1 << 62, 1 << 61, 0, false},
	})
}

func TestScaledOfAllSmall(t *testing.T) {
	for _, a := range small(20) {
		for _, b := range small(20) {
			for _, c := range small(20) {
				holdScaled(t, a, b, c)
			}
		}
	}
}

func TestScaledOfAllEdges(t *testing.T) {
	for _, a := range edges() {
		for _, b := range edges() {
			for _, c := range edges() {
				holdScaled(t, a, b, c)
			}
		}
	}
}

func TestScaledOfSomeNumbers(t *testing.T) {
	l := someNumbers(60000)
	for i := 0; i < len(l); i += 3 {
		holdScaled(t, l[i], l[i+1], l[i+2])
	}
}

// TestHalvesOfSomeDivisors lets each divisor have a rest about a half of it.
func TestHalvesOfSomeDivisors(t *testing.T) {
	for _, c := range append(someNumbers(2000), edges()...) {
		for i := int64(-1); i <= 1; i++ {
			for _, times := range []int64{1, 3, 10001} {
				holdScaled(t, c/2+i, times, c)
				holdScaled(t, -times, c/2+i, c)
			}
		}
	}
}

func TestMul(t *testing.T) {
	ask(t, "Mul", Mul, []answer{
		{10000, 10000, 10000, true}, {20000, 30000, 60000, true}, {15000, -20000, -30000, true}, {-5000, -5000, 2500, true},
		{-15, 5000, -8, true}, {15, 5000, 8, true}, {-15, -5000, 8, true}, {15, -5000, -8, true}, // of 7.5
		{-15, 4999, -7, true}, {-15, 5001, -8, true}, {25, 5000, 13, true}, {1, 5000, 1, true}, {-1, 5000, -1, true}, {1, 4999, 0, true}, {-1, 4999, 0, true},
		{1, 1, 0, true}, {-1, 1, 0, true}, {70, 71, 0, true}, {70, 72, 1, true}, {-70, 72, -1, true},
		{0, 0, 0, true}, {0, 10000, 0, true}, {0, -10000, 0, true}, {-10000, 0, 0, true}, {0, most, 0, true}, {least, 0, 0, true},
		{most, 10000, most, true}, {10000, least, least, true}, {most, -10000, least, true}, {least, -10000, most, true},
		{most, 10001, 0, false}, {10001, least, 0, false}, {most, 9999, 9222449699651090329, true}, {most, 1, 922337203685478, true}, {least, 1, -922337203685478, true},
		{most, most, 0, false}, {least, least, 0, false}, {most, least, 0, false},
		{303700049997, 303700049997, 9223372036818029970, true}, {303700049998, 303700049998, 0, false}, {303700049998, -303700049998, 0, false}, // about the root of all room
		{429396229, 214798626861131, most, true}, {-429396229, 214798626861131, least, true},
		{10200, 9042521604759584125, 0, false}, {10200, -9042521604759584125, 0, false},
		{none, 10000, 0, false}, {10000, none, 0, false}, {none, 0, 0, false}, {0, none, 0, false}, {none, none, 0, false}, {none, 1, 0, false}, {-10000, none, 0, false},
	})
}

func TestDiv(t *testing.T) {
	ask(t, "Div", Div, []answer{
		{10000, 10000, 10000, true}, {60000, 30000, 20000, true}, {60000, -20000, -30000, true}, {-2500, -5000, 5000, true},
		{10000, 30000, 3333, true}, {20000, 30000, 6667, true}, {-20000, 30000, -6667, true}, {20000, -30000, -6667, true}, {-10000, -30000, 3333, true},
		{1, 20000, 1, true}, {-1, 20000, -1, true}, {1, -20000, -1, true}, {-1, -20000, 1, true}, {1, 20001, 0, true}, {1, 19999, 1, true}, // half of one, less and more
		{3, 20000, 2, true}, {3, -20000, -2, true}, {5, 20000, 3, true}, {-5, 20000, -3, true}, {3, 20001, 1, true}, {-3, 20001, -1, true},
		{0, 1, 0, true}, {0, -1, 0, true}, {0, most, 0, true}, {0, least, 0, true},
		{0, 0, 0, false}, {1, 0, 0, false}, {-1, 0, 0, false}, {most, 0, 0, false}, {least, 0, 0, false},
		{1, 1, 10000, true}, {1, -1, -10000, true}, {5, 1, 50000, true}, {-5, -1, 50000, true},
		{922337203685477, 1, 9223372036854770000, true}, {922337203685478, 1, 0, false}, {922337203685477, -1, -9223372036854770000, true}, {922337203685478, -1, 0, false},
		{most, 10000, most, true}, {most, -10000, least, true}, {least, 10000, least, true}, {least, -10000, most, true},
		{most, 10001, 9222449791875588248, true}, {most, 9999, 0, false}, {least, 9999, 0, false}, {most, 1, 0, false}, {least, -1, 0, false},
		{most, most, 10000, true}, {least, most, -10000, true}, {most, least, -10000, true}, {least, least, 10000, true},
		{1, most, 0, true}, {1, least, 0, true}, {-1, most, 0, true}, {10000, most, 0, true}, {461168601842738, most, 0, true}, {461168601842739, most, 1, true}, {-461168601842739, most, -1, true}, {461168601842739, least, -1, true},
		{none, 10000, 0, false}, {10000, none, 0, false}, {none, 0, 0, false}, {0, none, 0, false}, {none, none, 0, false}, {none, 1, 0, false}, {none, -1, 0, false}, {1, none, 0, false},
	})
}

func TestProductsOfAllEdges(t *testing.T) {
	for _, a := range edges() {
		for _, b := range edges() {
			holdProducts(t, a, b)
		}
	}
}

// TestProductsOfAllSmall has products with each rest, and divisors up to some more than twice of what leaves a half.
func TestProductsOfAllSmall(t *testing.T) {
	for _, a := range small(9) {
		for b := int64(-20100); b <= 20100; b += 3 {
			holdProducts(t, a, b)
		}
	}
	for _, a := range small(120) {
		for _, b := range small(120) {
			holdProducts(t, a, b)
		}
	}
}

func TestProductsOfSomeNumbers(t *testing.T) {
	l := someNumbers(40000)
	for i := 0; i < len(l); i += 2 {
		holdProducts(t, l[i], l[i+1])
	}
}

// P8.3

func TestWhole(t *testing.T) {
	for _, x := range []int64{0, 10000, -10000, 20000, -30000, 123450000, 9223372036854770000, -9223372036854770000} {
		if !Whole(x) {
			t.Errorf("%d is not whole", x)
		}
	}
	for _, x := range []int64{1, -1, 5000, -5000, 9999, -9999, 10001, -10001, 100, 1000, 19999, 9223372036854769999, 9223372036854770001, -9223372036854770001, most, least, none} {
		if Whole(x) {
			t.Errorf("%d is whole", x)
		}
	}
}

func TestUnits(t *testing.T) {
	for _, x := range []struct{ x, want int64 }{
		{0, 0}, {1, 0}, {-1, 0}, {5000, 0}, {-5000, 0}, {9999, 0}, {-9999, 0},
		{10000, 1}, {-10000, -1}, {10001, 1}, {-10001, -1}, {15000, 1}, {-15000, -1}, {19999, 1}, {-19999, -1}, {20000, 2}, {-20000, -2},
		{123456789, 12345}, {-123456789, -12345},
		{9223372036854770000, 922337203685477}, {9223372036854769999, 922337203685476}, {-9223372036854770000, -922337203685477}, {-9223372036854769999, -922337203685476},
		{most, 922337203685477}, {least, -922337203685477},
		{none, 0},
	} {
		if got := Units(x.x); got != x.want {
			t.Errorf("Units(%d): %d", x.x, got)
		}
	}
}

func TestSign(t *testing.T) {
	for _, x := range []struct {
		x    int64
		want int
	}{
		{0, 0}, {1, 1}, {-1, -1}, {9999, 1}, {-9999, -1}, {10000, 1}, {-10000, -1}, {1 << 32, 1}, {-1 << 32, -1}, {most, 1}, {least, -1},
		{none, 0}, // of what may not be the chapter promises nothing: it has no sign, as it has no whole number
	} {
		if got := Sign(x.x); got != x.want {
			t.Errorf("Sign(%d): %d", x.x, got)
		}
	}
}

func TestOneOfManyNumbers(t *testing.T) {
	for _, x := range append(edges(), append(small(20100), someNumbers(20000)...)...) {
		holdOne(t, x)
	}
}

// TestUnitsOfWholeNumbers goes from whole numbers to their decimals and back.
func TestUnitsOfWholeNumbers(t *testing.T) {
	for _, n := range append(edges(), someNumbers(2000)...) {
		x, ok := Of(n)
		if ok && (Units(x) != n || !Whole(x) || Whole(x+1) || Whole(x-1)) {
			t.Errorf("%d, the decimal of %d, has %d", x, n, Units(x))
		}
		if within := n >= -922337203685477 && n <= 922337203685477; ok != within {
			t.Errorf("Of(%d): %v", n, ok)
		}
	}
}

// P8.4

// holdMisses holds what comes of a product and a quotient of decimals against the exact ones: twice what it misses by is not above the divisor.
func holdMisses(t *testing.T, a, b int64) {
	t.Helper()
	twice := func(x, y, exact *big.Int) *big.Int {
		miss := new(big.Int).Mul(x, y)
		miss.Abs(miss.Sub(miss, exact))
		return miss.Add(miss, miss)
	}
	scale := bigOf(10000)
	if x, ok := Mul(a, b); ok && twice(bigOf(x), scale, new(big.Int).Mul(bigOf(a), bigOf(b))).Cmp(scale) > 0 {
		t.Errorf("Mul(%d, %d): %d is further away than half of a ten-thousandth", a, b, x)
	}
	if x, ok := Div(a, b); ok && twice(bigOf(x), bigOf(b), new(big.Int).Mul(bigOf(a), scale)).CmpAbs(bigOf(b)) > 0 {
		t.Errorf("Div(%d, %d): %d, multiplied, misses by more than half of the divisor", a, b, x)
	}
}

func TestProductsAndQuotientsMissByLittle(t *testing.T) {
	for _, a := range edges() {
		for _, b := range edges() {
			holdMisses(t, a, b)
		}
	}
	l := someNumbers(40000)
	for i := 0; i < len(l); i += 2 {
		holdMisses(t, l[i], l[i+1])
	}
}

// TestNoRoomIsBeyond holds that nothing is told where there is no room, and there alone: the exact one is half of a ten-thousandth beyond the greatest decimal, or more.
func TestNoRoomIsBeyond(t *testing.T) {
	end := new(big.Int).Add(new(big.Int).Mul(bigOf(most), bigOf(2)), bigOf(1))
	l := append(edges(), someNumbers(400)...)
	for _, a := range l {
		for _, b := range l {
			if !mayBe(a) || !mayBe(b) {
				continue
			}
			exact := new(big.Int).Mul(bigOf(a), bigOf(b))
			_, ok := Mul(a, b)
			if within := exact.Add(exact, exact).CmpAbs(new(big.Int).Mul(end, bigOf(10000))) < 0; ok != within {
				t.Errorf("Mul(%d, %d): %v", a, b, ok)
			}
		}
	}
}

func FuzzAll(f *testing.F) {
	for _, x := range edges() {
		f.Add(x, int64(10000), int64(3))
		f.Add(most, x, most)
		f.Add(int64(-3), most, x)
	}
	f.Fuzz(func(t *testing.T, a, b, c int64) {
		holdOne(t, a)
		holdSums(t, a, b)
		holdProducts(t, a, b)
		holdScaled(t, a, b, c)
		holdMisses(t, a, b)
	})
}
