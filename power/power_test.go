package power

import (
	"math"
	"math/big"
	"math/rand"
	"testing"
)

// The greatest decimal, the least one, and the one number of 64 bits that may not be.
const (
	most  = int64(9223372036854775807)
	least = int64(-9223372036854775807)
	none  = int64(math.MinInt64)
)

// mostUnits is the greatest whole number that a decimal has.
const mostUnits = int64(922337203685477)

// bigOf is a number that may have any number of digits.
func bigOf(x int64) *big.Int { return big.NewInt(x) }

// told is the document's word on what a call answers from which exactly that comes out; nil, if nothing does.
func told(out *big.Int) (int64, bool) {
	if out == nil || !out.IsInt64() || out.Int64() == none {
		return 0, false
	}
	return out.Int64(), true
}

// decimal is a whole number as a decimal; nil, if there is no number.
func decimal(n *big.Int) *big.Int {
	if n == nil {
		return nil
	}
	return new(big.Int).Mul(n, bigOf(10000))
}

// over is the document's word on a over b, rounded.
func over(a, b *big.Int) *big.Int {
	whole, rest := new(big.Int).QuoRem(a, b, new(big.Int))
	if rest.Add(rest, rest).CmpAbs(b) >= 0 {
		whole.Add(whole, bigOf(int64(a.Sign()*b.Sign())))
	}
	return whole
}

// units is the document's word on a whole number from one on to another one; nil, if it is none.
func units(x, from, to int64) *big.Int {
	whole, rest := new(big.Int).QuoRem(bigOf(x), bigOf(10000), new(big.Int))
	if rest.Sign() != 0 || whole.Cmp(bigOf(from)) < 0 || whole.Cmp(bigOf(to)) > 0 {
		return nil
	}
	return whole
}

// powerByWords is the document's word on Power.
func powerByWords(x, n int64) (int64, bool) {
	times := units(n, -1000, 1000)
	if x == none || times == nil {
		return 0, false
	}
	power := bigOf(10000)
	for range new(big.Int).Abs(times).Int64() {
		power = over(power.Mul(power, bigOf(x)), bigOf(10000))
		if _, ok := told(power); !ok {
			return 0, false
		}
	}
	switch {
	case times.Sign() >= 0:
		return told(power)
	case power.Sign() == 0:
		return 0, false
	}
	return told(over(bigOf(100000000), power))
}

// sqrtByWords is the document's word on Sqrt.
func sqrtByWords(x int64) (int64, bool) {
	if x < 0 {
		return 0, false
	}
	return told(new(big.Int).Sqrt(decimal(bigOf(x))))
}

// divisor is the document's word on the greatest number that divides both of two whole numbers; nil, if one is none.
func divisor(a, b int64) *big.Int {
	first, second := units(a, 0, most), units(b, 0, most)
	if first == nil || second == nil {
		return nil
	}
	return new(big.Int).GCD(nil, nil, first, second)
}

// gcdByWords is the document's word on Gcd.
func gcdByWords(a, b int64) (int64, bool) { return told(decimal(divisor(a, b))) }

// lcmByWords is the document's word on Lcm.
func lcmByWords(a, b int64) (int64, bool) {
	both := divisor(a, b)
	switch {
	case both == nil:
		return 0, false
	case both.Sign() == 0:
		return 0, true
	}
	product := new(big.Int).Mul(units(a, 0, most), units(b, 0, most))
	return told(decimal(product.Quo(product, both)))
}

// factByWords is the document's word on Fact.
func factByWords(n int64) (int64, bool) {
	last := units(n, 0, 1000)
	if last == nil {
		return 0, false
	}
	return told(decimal(new(big.Int).MulRange(1, last.Int64())))
}

// combinByWords is the document's word on Combin.
func combinByWords(n, k int64) (int64, bool) {
	of, chosen := units(n, 0, 1000), units(k, 0, 1000)
	if of == nil || chosen == nil || chosen.Cmp(of) > 0 {
		return 0, false
	}
	return told(decimal(new(big.Int).Binomial(of.Int64(), chosen.Int64())))
}

// about is numbers and those just beside them, with each sign.
func about(l ...int64) []int64 {
	all := []int64{}
	for _, x := range l {
		all = append(all, x-1, x, x+1, 1-x, -x, -1-x)
	}
	return all
}

// edges is numbers about 0, small whole numbers and halves, the bounds of what is counted, powers of 2 and of 10, the whole numbers at the edge of the room of decimals, and both ends of 64 bits.
func edges() []int64 {
	return append(about(0, 3, 50, 100, 5000, 10000, 15000, 20000, 30000, 60000, 170000, 180000, 9990000, 10000000, 10010000,
		1<<31, 1<<32, 1<<53, 1000000000000000000, 1<<62, 9223372036854760000, 9223372036854770000, most-1),
		none, 2, -2, 7, -7)
}

// whole is all whole numbers from one on to another one, as decimals.
func whole(from, to int64) []int64 {
	l := []int64{}
	for n := from; n <= to; n++ {
		l = append(l, n*10000)
	}
	return l
}

// notWhole is what is no whole number, and what may not be.
func notWhole() []int64 {
	return []int64{1, -1, 2, 9999, -9999, 10001, -10001, 5000, 15000, -15000, 20001, 9999999, 10000001, -9999999, most, least, most - 1, none, none + 5808 + 1, 9223372036854770001}
}

// someNumbers is numbers of any size and sign, as many of few bits as of many.
func someNumbers(count int) []int64 {
	chance := rand.New(rand.NewSource(10))
	l := []int64{}
	for range count {
		l = append(l, int64(chance.Uint64())>>chance.Intn(64))
	}
	return l
}

// someWhole is whole numbers from 0 on, of any size, of which many have divisors with others.
func someWhole(count int) []int64 {
	chance := rand.New(rand.NewSource(11))
	l := []int64{}
	for range count {
		n := int64(1)
		for range chance.Intn(12) {
			if more := n * (2 + chance.Int63n(40)); more <= mostUnits {
				n = more
			}
		}
		l = append(l, n*10000)
	}
	return l
}

// hold holds a call of two decimals against the document's words.
func hold(t *testing.T, name string, call, words func(a, b int64) (int64, bool), a, b int64) {
	t.Helper()
	want, wantOk := words(a, b)
	if got, ok := call(a, b); got != want || ok != wantOk {
		t.Errorf("%s(%d, %d): %d, %v; not %d, %v", name, a, b, got, ok, want, wantOk)
	}
}

// holdOne holds the calls of one decimal against the document's words.
func holdOne(t *testing.T, x int64) {
	t.Helper()
	want, wantOk := sqrtByWords(x)
	if got, ok := Sqrt(x); got != want || ok != wantOk {
		t.Errorf("Sqrt(%d): %d, %v; not %d, %v", x, got, ok, want, wantOk)
	}
	want, wantOk = factByWords(x)
	if got, ok := Fact(x); got != want || ok != wantOk {
		t.Errorf("Fact(%d): %d, %v; not %d, %v", x, got, ok, want, wantOk)
	}
}

// holdTwo holds the calls of two decimals against the document's words.
func holdTwo(t *testing.T, a, b int64) {
	t.Helper()
	hold(t, "Power", Power, powerByWords, a, b)
	hold(t, "Gcd", Gcd, gcdByWords, a, b)
	hold(t, "Lcm", Lcm, lcmByWords, a, b)
	hold(t, "Combin", Combin, combinByWords, a, b)
}

// asked is what is asked of a call of one decimal, a, or of two.
type asked struct {
	a, b, want int64
	ok         bool
}

// ask holds a call of two decimals against what is asked of it.
func ask(t *testing.T, name string, call func(a, b int64) (int64, bool), l []asked) {
	t.Helper()
	for _, x := range l {
		if got, ok := call(x.a, x.b); got != x.want || ok != x.ok {
			t.Errorf("%s of %d and %d: %d, %v; not %d, %v", name, x.a, x.b, got, ok, x.want, x.ok)
		}
	}
}

// askOne holds a call of one decimal against what is asked of it.
func askOne(t *testing.T, name string, call func(a int64) (int64, bool), l []asked) {
	t.Helper()
	ask(t, name, func(a, b int64) (int64, bool) { return call(a) }, l)
}

// nothing holds that a call answered 0 and false.
func nothing(t *testing.T, name string, arguments ...int64) func(int64, bool) {
	return func(got int64, ok bool) {
		t.Helper()
		if got != 0 || ok {
			t.Errorf("%s of %v: %d, %v", name, arguments, got, ok)
		}
	}
}

// P10.1

func TestPower(t *testing.T) {
	ask(t, "Power", Power, []asked{
		{20000, 100000, 10240000, true}, {20000, 0, 10000, true}, {20000, 10000, 20000, true}, {20000, 20000, 40000, true}, {-20000, 30000, -80000, true}, {-20000, 40000, 160000, true},
		{15000, 20000, 22500, true}, {15000, 30000, 33750, true}, {15000, 40000, 50625, true},
		{15000, 50000, 75938, true}, {-15000, 50000, -75938, true}, // 7.59375: of two that are as near the one further from 0
		{15000, 60000, 113907, true}, {-15000, 60000, 113907, true}, // rounded each time: rounded at the end alone it would be 11.3906
		{5000, 120000, 3, true}, {5000, 130000, 2, true}, {5000, 140000, 1, true}, {5000, 10000000, 1, true}, {4999, 140000, 0, true}, // half of a ten-thousandth is rounded to one again and again
		{11, 20000, 0, true}, {100, 20000, 1, true}, {70, 20000, 0, true}, {71, 20000, 1, true}, {-71, 20000, 1, true}, {71, 30000, 0, true},
		{10001, 10000000, 11000, true}, {9999, 10000000, 9000, true}, {10050, 10000000, 1466032, true},
		{20000, 490000, 5629499534213120000, true}, {-20000, 490000, -5629499534213120000, true}, {20000, 500000, 0, false}, {-20000, 500000, 0, false},
		{100000, 140000, 1000000000000000000, true}, {100000, 150000, 0, false}, {10345, 10000000, 5376222832787821870, true}, {10350, 10000000, 8716382231284729448, true}, {11000, 10000000, 0, false},
		{most, 10000, most, true}, {least, 10000, least, true}, {most, 0, 10000, true}, {least, 0, 10000, true}, {most, 20000, 0, false}, {least, 20000, 0, false}, {least, 30000, 0, false},
	})
}

// TestPowerByLess has exponents below 0.
func TestPowerByLess(t *testing.T) {
	ask(t, "Power", Power, []asked{
		{20000, -10000, 5000, true}, {20000, -20000, 2500, true}, {20000, -30000, 1250, true}, {20000, -40000, 625, true}, {20000, -140000, 1, true}, {20000, -150000, 0, true},
		{20000, -50000, 313, true}, {-20000, -50000, -313, true}, // 0.03125
		{30000, -10000, 3333, true}, {30000, -20000, 1111, true}, {-30000, -10000, -3333, true}, {-30000, -20000, 1111, true}, {60000, -10000, 1667, true},
		{15000, -60000, 878, true}, {15000, -50000, 1317, true}, // 1 over 11.3907, over 7.5938
		{5000, -10000, 20000, true}, {5000, -100000, 10000000, true}, {5000, -1000000, 100000000, true}, // 1 over 0.001, which 0.5 ten times is rounded to
		{100, -20000, 100000000, true}, {1, -10000, 100000000, true}, {-1, -10000, -100000000, true}, {71, -20000, 100000000, true}, {-71, -20000, 100000000, true},
		{most, -10000, 0, true}, {least, -10000, 0, true}, {100000, -140000, 0, true}, {20000, -490000, 0, true},
	})
}

// TestPowerOfNothing divides 1 by the Power 0, and by what is beyond the room.
func TestPowerOfNothing(t *testing.T) {
	for _, x := range []asked{{a: 0, b: -10000}, {a: 0, b: -20000}, {a: 0, b: -10000000}, {a: 1, b: -20000}, {a: -1, b: -20000}, {a: 70, b: -20000}, {a: -70, b: -20000}, {a: 71, b: -30000}, {a: 4999, b: -140000}} {
		nothing(t, "Power that is 0", x.a, x.b)(Power(x.a, x.b))
	}
	for _, x := range []asked{{a: 20000, b: -500000}, {a: -20000, b: -500000}, {a: 20000, b: -10000000}, {a: 100000, b: -150000}, {a: 11000, b: -10000000}, {a: most, b: -20000}, {a: least, b: -10000000}} {
		nothing(t, "Power that has no room", x.a, x.b)(Power(x.a, x.b))
	}
}

// TestPowerOfZeroAndOnes has 0, 1 and -1 by all exponents within the bounds, and what is just beside them.
func TestPowerOfZeroAndOnes(t *testing.T) {
	for _, n := range whole(-1000, 1000) {
		sign, zero := int64(10000), int64(0)
		if n/10000%2 != 0 {
			sign = -10000
		}
		if n == 0 {
			zero = 10000
		}
		ask(t, "Power", Power, []asked{{10000, n, 10000, true}, {-10000, n, sign, true}, {0, n, zero, n >= 0}})
	}
	for _, n := range append(whole(-40, 40), append(whole(-1002, -998), whole(998, 1002)...)...) {
		for _, x := range about(0, 2, 50, 100, 4999, 5000, 9998, 9999, 10001, 10002) {
			hold(t, "Power", Power, powerByWords, x, n)
		}
	}
}

// TestNoPower hands in exponents that are no whole numbers, or beyond the bounds.
func TestNoPower(t *testing.T) {
	beyond := append(notWhole(), 10010000, -10010000, 10020000, -10020000, 100000000, 9223372036854770000, -9223372036854770000, 10000<<32, -10000<<32, 10000<<32+10000)
	for _, n := range beyond {
		for _, x := range edges() {
			nothing(t, "Power", x, n)(Power(x, n))
		}
	}
}

// TestWhatMayNotBe hands the least number of 64 bits in as each decimal of each call.
func TestWhatMayNotBe(t *testing.T) {
	nothing(t, "Sqrt")(Sqrt(none))
	nothing(t, "Fact")(Fact(none))
	for _, x := range append(edges(), whole(-1001, 1001)...) {
		nothing(t, "Power of what may not be", x)(Power(none, x))
		nothing(t, "Power by what may not be", x)(Power(x, none))
		nothing(t, "Gcd of what may not be", x)(Gcd(none, x))
		nothing(t, "Gcd with what may not be", x)(Gcd(x, none))
		nothing(t, "Lcm of what may not be", x)(Lcm(none, x))
		nothing(t, "Lcm with what may not be", x)(Lcm(x, none))
		nothing(t, "Combin of what may not be", x)(Combin(none, x))
		nothing(t, "Combin by what may not be", x)(Combin(x, none))
	}
}

func TestPowerOfAllEdges(t *testing.T) {
	for _, x := range edges() {
		for _, n := range append(edges(), whole(-60, 60)...) {
			hold(t, "Power", Power, powerByWords, x, n)
		}
	}
}

// TestPowerAtTheRoom raises what has a power just within the room, and just beyond it.
func TestPowerAtTheRoom(t *testing.T) {
	for n := int64(2); n <= 1000; n++ {
		root := int64(math.Round(10000 * math.Pow(922337203685477.5807, 1/float64(n))))
		for x := root - 3; x <= root+3; x++ {
			hold(t, "Power", Power, powerByWords, x, n*10000)
			hold(t, "Power", Power, powerByWords, -x, n*10000)
			hold(t, "Power", Power, powerByWords, x, n*-10000)
		}
	}
}

// TestPowerAtNothing raises what is just rounded to 0 on the way, and just not.
func TestPowerAtNothing(t *testing.T) {
	for _, n := range whole(-30, 30) {
		for x := int64(-200); x <= 200; x++ {
			hold(t, "Power", Power, powerByWords, x, n)
			hold(t, "Power", Power, powerByWords, x*25, n)
		}
	}
}

func TestPowerOfSomeNumbers(t *testing.T) {
	chance := rand.New(rand.NewSource(12))
	for _, x := range someNumbers(20000) {
		hold(t, "Power", Power, powerByWords, x, 10000*(chance.Int63n(41)-20))
		hold(t, "Power", Power, powerByWords, x%12000, 10000*(chance.Int63n(2003)-1001))
	}
}

// P10.2

func TestSqrt(t *testing.T) {
	askOne(t, "Sqrt", Sqrt, []asked{
		{0, 0, 0, true}, {10000, 0, 10000, true}, {20000, 0, 14142, true}, {30000, 0, 17320, true}, {40000, 0, 20000, true}, {90000, 0, 30000, true}, {1000000, 0, 100000, true},
		{39999, 0, 19999, true}, {40001, 0, 20000, true}, {22500, 0, 15000, true}, {22499, 0, 14999, true}, {22501, 0, 15000, true}, // beside squares
		{1, 0, 100, true}, {2, 0, 141, true}, {3, 0, 173, true}, {4, 0, 200, true}, {9, 0, 300, true}, {100, 0, 1000, true}, {2500, 0, 5000, true}, {2499, 0, 4998, true}, {9999, 0, 9999, true}, {9998, 0, 9998, true}, // below 1
		{most, 0, 303700049997, true}, {most - 1, 0, 303700049997, true},
		{-1, 0, 0, false}, {-10000, 0, 0, false}, {-40000, 0, 0, false}, {least, 0, 0, false}, {none, 0, 0, false},
	})
}

func TestSqrtOfMany(t *testing.T) {
	for x := int64(-1000); x <= 100000; x++ {
		holdOne(t, x)
	}
	for _, x := range append(edges(), someNumbers(20000)...) {
		holdOne(t, x)
	}
}

// TestSqrtAboutSquares has what is about the squares of decimals, also of those whose square has more places.
func TestSqrtAboutSquares(t *testing.T) {
	roots := []int64{}
	for i := range 39 {
		roots = append(roots, 1<<i-1, 1<<i, 1<<i+1)
	}
	for _, x := range someNumbers(10000) {
		roots = append(roots, x&(1<<38-1), x&(1<<20-1), x&(1<<20-1)*100)
	}
	for i := range int64(1000) {
		roots = append(roots, 303700049997-i, i*i, i*10000)
	}
	for _, root := range roots {
		square := new(big.Int).Mul(bigOf(root), bigOf(root))
		near, ok := told(square.Quo(square, bigOf(10000)))
		for i := int64(-1); ok && i <= 2; i++ {
			// What wraps round is below 0.
			holdOne(t, near+i)
		}
	}
}

// P10.3

func TestGcd(t *testing.T) {
	ask(t, "Gcd", Gcd, []asked{
		{0, 0, 0, true}, {0, 70000, 70000, true}, {70000, 0, 70000, true}, {0, 10000, 10000, true}, {10000, 0, 10000, true},
		{120000, 180000, 60000, true}, {180000, 120000, 60000, true}, {70000, 70000, 70000, true}, {10000, 10000, 10000, true}, {10000, 70000, 10000, true}, {70000, 10000, 10000, true},
		{60000, 30000, 30000, true}, {30000, 60000, 30000, true}, {80000, 90000, 10000, true}, {10710000, 4620000, 210000, true},
		{9223372036854770000, 9223372036854770000, 9223372036854770000, true}, {9223372036854770000, 0, 9223372036854770000, true}, {0, 9223372036854770000, 9223372036854770000, true},
		{9223372036854770000, 9223372036854760000, 10000, true}, {9223372036854770000, 10000, 10000, true}, {9223372036854770000, 28030000, 28030000, true}, {9223372036854770000, 56060000, 28030000, true}, // 922337203685477 is a multiple of 2803
	})
}

func TestLcm(t *testing.T) {
	ask(t, "Lcm", Lcm, []asked{
		{0, 0, 0, true}, {0, 70000, 0, true}, {70000, 0, 0, true}, {0, 9223372036854770000, 0, true}, {9223372036854770000, 0, 0, true},
		{40000, 60000, 120000, true}, {60000, 40000, 120000, true}, {70000, 70000, 70000, true}, {10000, 10000, 10000, true}, {10000, 70000, 70000, true}, {70000, 10000, 70000, true},
		{60000, 30000, 60000, true}, {30000, 60000, 60000, true}, {80000, 90000, 720000, true}, {210000, 60000, 420000, true},
		{9223372036854770000, 9223372036854770000, 9223372036854770000, true}, {9223372036854770000, 10000, 9223372036854770000, true}, {10000, 9223372036854770000, 9223372036854770000, true}, {9223372036854770000, 28030000, 9223372036854770000, true},
		{4611686018427380000, 40000, 9223372036854760000, true}, {4611686018427380000, 80000, 0, false}, // 461168601842738 is even, and no multiple of 4
		{9223372036854770000, 20000, 0, false}, {20000, 9223372036854770000, 0, false}, {9223372036854770000, 9223372036854760000, 0, false}, {9223372036854770000, 56060000, 0, false},
		{303700040000, 303700050000, 9223371733300200000, true}, {303700050000, 303700060000, 0, false}, // about the last two neighbours that have one
	})
}

// TestNotCounted hands what is no whole number from 0 on in as each number of Gcd and Lcm.
func TestNotCounted(t *testing.T) {
	for _, x := range append(notWhole(), whole(-1001, -1)...) {
		for _, other := range append(edges(), x, -x) {
			nothing(t, "Gcd", x, other)(Gcd(x, other))
			nothing(t, "Gcd", other, x)(Gcd(other, x))
			nothing(t, "Lcm", x, other)(Lcm(x, other))
			nothing(t, "Lcm", other, x)(Lcm(other, x))
		}
	}
}

// TestGcdAndLcmOfSmall finds both among all numbers that are small enough.
func TestGcdAndLcmOfSmall(t *testing.T) {
	for a := int64(1); a <= 40; a++ {
		for b := int64(1); b <= 40; b++ {
			divides, divided := min(a, b), max(a, b)
			for a%divides != 0 || b%divides != 0 {
				divides--
			}
			for divided%a != 0 || divided%b != 0 {
				divided++
			}
			ask(t, "Gcd", Gcd, []asked{{a * 10000, b * 10000, divides * 10000, true}})
			ask(t, "Lcm", Lcm, []asked{{a * 10000, b * 10000, divided * 10000, true}})
		}
	}
}

func TestFact(t *testing.T) {
	product := int64(10000)
	for n := range int64(18) {
		askOne(t, "Fact", Fact, []asked{{n * 10000, 0, product, true}})
		product *= n + 1
	}
	askOne(t, "Fact", Fact, []asked{{0, 0, 10000, true}, {10000, 0, 10000, true}, {20000, 0, 20000, true}, {50000, 0, 1200000, true}, {170000, 0, 3556874280960000000, true}})
	// From 18 on there is no room; from 66 on the product is a multiple of 2^64.
	for _, n := range append(whole(18, 1100), 10000<<32, 9223372036854770000) {
		nothing(t, "Fact", n)(Fact(n))
	}
	for _, n := range append(notWhole(), whole(-1100, -1)...) {
		nothing(t, "Fact", n)(Fact(n))
	}
}

func TestCombin(t *testing.T) {
	ask(t, "Combin", Combin, []asked{
		{0, 0, 10000, true}, {10000, 0, 10000, true}, {10000, 10000, 10000, true}, {50000, 0, 10000, true}, {50000, 10000, 50000, true}, {50000, 20000, 100000, true}, {50000, 30000, 100000, true}, {50000, 40000, 50000, true}, {50000, 50000, 10000, true},
		{490000, 60000, 139838160000, true}, {520000, 50000, 25989600000, true},
		{10000000, 0, 10000, true}, {10000000, 10000, 10000000, true}, {10000000, 20000, 4995000000, true}, {10000000, 50000, 82502912502000000, true}, {10000000, 60000, 0, false},
		{10000000, 10000000, 10000, true}, {10000000, 9990000, 10000000, true}, {10000000, 9980000, 4995000000, true}, {10000000, 9950000, 82502912502000000, true}, {10000000, 9940000, 0, false}, {10000000, 5000000, 0, false},
		{9360000, 60000, 9190710290481720000, true}, {9370000, 60000, 0, false}, {9360000, 9300000, 9190710290481720000, true}, {9370000, 9310000, 0, false},
		{710000, 150000, 9147344493700240000, true}, {710000, 560000, 9147344493700240000, true}, {720000, 150000, 0, false}, // 15 times as much would have no room
		{0, 10000, 0, false}, {50000, 60000, 0, false}, {9990000, 10000000, 0, false}, {10000000, 10010000, 0, false},
		{10010000, 0, 0, false}, {10010000, 10000, 0, false}, {10010000, 10010000, 0, false}, {10000 << 32, 0, 0, false}, {9223372036854770000, 9223372036854770000, 0, false},
		{-10000, 0, 0, false}, {0, -10000, 0, false}, {50000, -10000, 0, false}, {-10000, -10000, 0, false}, {-10000, -20000, 0, false}, {-50000, 20000, 0, false},
	})
}

// TestCombinOfAll has all numbers from -1 to beyond 1000, chosen of all.
func TestCombinOfAll(t *testing.T) {
	for _, n := range whole(-1, 1002) {
		for _, k := range whole(-1, 60) {
			hold(t, "Combin", Combin, combinByWords, n, k)
			hold(t, "Combin", Combin, combinByWords, n, n-k)
		}
		hold(t, "Combin", Combin, combinByWords, n, n/20000*10000)
	}
}

// TestCombinOfNoWhole hands what is no whole number in as each number.
func TestCombinOfNoWhole(t *testing.T) {
	for _, x := range notWhole() {
		for _, other := range append(edges(), whole(0, 100)...) {
			nothing(t, "Combin", x, other)(Combin(x, other))
			nothing(t, "Combin", other, x)(Combin(other, x))
		}
	}
}

func TestAllEdges(t *testing.T) {
	for _, a := range edges() {
		for _, b := range edges() {
			holdTwo(t, a, b)
		}
	}
}

func TestWholeNumbers(t *testing.T) {
	l := append(someWhole(600), append(whole(0, 30), whole(mostUnits-20, mostUnits)...)...)
	for _, a := range l {
		for _, b := range l {
			hold(t, "Gcd", Gcd, gcdByWords, a, b)
			hold(t, "Lcm", Lcm, lcmByWords, a, b)
		}
	}
}

// P10.4

// TestNextSquare holds that a root's square is not above x, and that of the next decimal is.
func TestNextSquare(t *testing.T) {
	for _, x := range append(edges(), someNumbers(20000)...) {
		root, ok := Sqrt(x)
		if ok != (x >= 0) {
			t.Fatalf("Sqrt(%d): %v", x, ok)
		}
		if !ok {
			continue
		}
		square := func(r int64) int { return new(big.Int).Mul(bigOf(r), bigOf(r)).Cmp(decimal(bigOf(x))) }
		if square(root) > 0 || square(root+1) <= 0 {
			t.Errorf("the root of %d is not %d", x, root)
		}
	}
}

// TestWhatDividesBoth holds that what divides both divides their Gcd, and that Gcd and Lcm multiplied are the numbers multiplied.
func TestWhatDividesBoth(t *testing.T) {
	l := someWhole(300)
	for i, a := range l {
		for _, b := range l[:i+1] {
			both, ok := Gcd(a, b)
			if !ok {
				t.Fatalf("Gcd(%d, %d): none", a, b)
			}
			for _, n := range whole(1, 60) {
				if (a%n == 0 && b%n == 0) != (both%n == 0) {
					t.Errorf("%d divides %d and %d, or their Gcd %d, not both", n, a, b, both)
				}
			}
			multiple, ok := Lcm(a, b)
			if ok && new(big.Int).Mul(bigOf(both), bigOf(multiple)).Cmp(new(big.Int).Mul(bigOf(a), bigOf(b))) != 0 {
				t.Errorf("%d and %d: Gcd %d, Lcm %d", a, b, both, multiple)
			}
		}
	}
}

// FuzzAll holds all calls against the document's words.
func FuzzAll(f *testing.F) {
	for _, x := range edges() {
		f.Add(x, int64(20000))
		f.Add(int64(60000), x)
	}
	f.Fuzz(func(t *testing.T, a, b int64) {
		holdOne(t, a)
		holdTwo(t, a, b)
		// Few numbers are whole by chance.
		holdTwo(t, a%30000, b%1001*10000)
		holdTwo(t, a%mostUnits*10000, b%mostUnits*10000)
		holdTwo(t, a%1001*10000, b%1001*10000)
	})
}
