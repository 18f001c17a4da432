package fold

import (
	"encoding/binary"
	"fmt"
	"math"
	"math/big"
	"math/rand"
	"slices"
	"strings"
	"testing"

	"oculus/api"
	"oculus/value"
)

// The greatest decimal, the least one, and the one number of 64 bits that may not be.
const (
	most  = int64(9223372036854775807)
	least = int64(-9223372036854775807)
	none  = int64(math.MinInt64)
)

// root is the greatest decimal of which the square may be: the greatest decimal has the root 30370004.99976.
const root = int64(303700049997)

// list is values, one behind the other.
type list = []api.Value

// The values of each kind, written out.

func number(x int64) api.Value { return api.Value{Kind: 1, Num: x} }
func str(t string) api.Value   { return api.Value{Kind: 2, Text: t} }
func fault(n int64) api.Value  { return api.Value{Kind: 4, Num: n} }

var (
	empty = api.Value{}
	wrong = api.Value{Kind: 3}
	right = api.Value{Kind: 3, Num: 1}
)

// The faults that this layer itself tells, and one that it never does.
var (
	badDiv   = fault(1)
	badValue = fault(2)
	badNum   = fault(4)
	badNone  = fault(5)
)

// numbers is the list of these numbers.
func numbers(xs ...int64) list {
	l := list{}
	for _, x := range xs {
		l = append(l, number(x))
	}
	return l
}

// times is a list, so many times.
func times(n int, l list) list { return slices.Repeat(l, n) }

// passed is values that are passed over where numbers are taken.
func passed() list {
	return list{empty, str(""), str("7"), str("-12.5"), str("0"), str("a"), str("TRUE"), str("#DIV"), wrong, right}
}

// laidOut is a list with what is passed over at both ends, and between each two of its values.
func laidOut(l list) list {
	all := passed()
	for _, v := range l {
		all = append(append(all, v), passed()...)
	}
	return all
}

// Next come the document's words on each call.

// firstByWords is the first fault of a list; false: it has none.
func firstByWords(l list) (api.Value, bool) {
	if i := slices.IndexFunc(l, func(v api.Value) bool { return v.Kind == 4 }); i >= 0 {
		return l[i], true
	}
	return empty, false
}

// numbersByWords is the document's word on Numbers.
func numbersByWords(l list) ([]*big.Int, api.Value) {
	if bad, is := firstByWords(l); is {
		return nil, bad
	}
	all := []*big.Int{}
	for _, v := range l {
		if v.Kind == 1 {
			all = append(all, big.NewInt(v.Num))
		}
	}
	return all, empty
}

// may tells whether a decimal of any number of digits may be.
func may(x *big.Int) bool { return x.CmpAbs(big.NewInt(most)) <= 0 }

// over is the document's word on a over b, rounded.
func over(a, b *big.Int) *big.Int {
	whole, rest := new(big.Int).QuoRem(a, b, new(big.Int))
	if rest.Add(rest, rest).CmpAbs(b) >= 0 {
		whole.Add(whole, big.NewInt(int64(a.Sign()*b.Sign())))
	}
	return whole
}

// product is the document's word on two decimals' product.
func product(a, b *big.Int) *big.Int {
	return over(new(big.Int).Mul(a, b), big.NewInt(10000))
}

// sumOf is the document's word on the sum of decimals, taken from the first one on.
func sumOf(all []*big.Int) api.Value {
	sum := new(big.Int)
	for _, x := range all {
		if sum.Add(sum, x); !may(x) || !may(sum) {
			return badNum
		}
	}
	return number(sum.Int64())
}

// sumByWords is the document's word on Sum.
func sumByWords(l list) api.Value {
	all, bad := numbersByWords(l)
	if bad != empty {
		return bad
	}
	return sumOf(all)
}

// productByWords is the document's word on Product.
func productByWords(l list) api.Value {
	all, bad := numbersByWords(l)
	switch {
	case bad != empty:
		return bad
	case len(all) == 0:
		return number(0)
	}
	so := all[0]
	for _, x := range all[1:] {
		if so = product(so, x); !may(so) {
			return badNum
		}
	}
	return number(so.Int64())
}

// squaresByWords is the document's word on Squares.
func squaresByWords(l list) api.Value {
	all, bad := numbersByWords(l)
	if bad != empty {
		return bad
	}
	for i, x := range all {
		all[i] = product(x, x)
	}
	return sumOf(all)
}

// leastByWords is the document's word on Least.
func leastByWords(l list) api.Value { return placedByWords(l, func(size int) int { return 0 }) }

// mostByWords is the document's word on Most.
func mostByWords(l list) api.Value { return placedByWords(l, func(size int) int { return size - 1 }) }

// placedByWords is the number at a place of all, once they rise.
func placedByWords(l list, place func(size int) int) api.Value {
	all, bad := numbersByWords(l)
	switch {
	case bad != empty:
		return bad
	case len(all) == 0:
		return number(0)
	}
	slices.SortFunc(all, (*big.Int).Cmp)
	return number(all[place(len(all))].Int64())
}

// meanByWords is the document's word on Mean.
func meanByWords(l list) api.Value {
	all, bad := numbersByWords(l)
	sum := sumOf(all)
	switch {
	case bad != empty:
		return bad
	case len(all) == 0:
		return badDiv
	case sum == badNum:
		return badNum
	}
	return number(over(big.NewInt(sum.Num), big.NewInt(int64(len(all)))).Int64())
}

// countByWords is the document's word on Count.
func countByWords(l list, kind int) int {
	n := 0
	for _, v := range l {
		isEmpty, isNumber := v.Kind == 0, v.Kind == 1
		switch {
		case kind == 1 && isNumber,
			kind == 0 && (isEmpty || v.Kind == 2 && v.Text == ""),
			kind != 0 && kind != 1 && !isEmpty:
			n++
		}
	}
	return n
}

// textByWords is the document's word on a value as a text, which is no fault.
func textByWords(v api.Value) string {
	switch v.Kind {
	case 1:
		return strings.TrimSuffix(strings.TrimRight(big.NewRat(v.Num, 10000).FloatString(4), "0"), ".")
	case 3:
		return []string{"FALSE", "TRUE"}[v.Num]
	}
	return v.Text
}

// concatByWords is the document's word on Concat.
func concatByWords(l list) api.Value {
	if bad, is := firstByWords(l); is {
		return bad
	}
	var all strings.Builder
	for _, v := range l {
		all.WriteString(textByWords(v))
	}
	if all.Len() > 256 {
		return badValue
	}
	return str(all.String())
}

// truthByWords is the document's word on a value as a truth.
func truthByWords(v api.Value) api.Value {
	switch {
	case v.Kind == 0, v == number(0), v == str("FALSE"):
		return wrong
	case v.Kind == 1, v == str("TRUE"):
		return right
	case v.Kind == 2:
		return badValue
	}
	return v
}

// xorByWords is the document's word on Xor.
func xorByWords(l list) api.Value {
	truths := list{}
	for _, v := range l {
		truths = append(truths, truthByWords(v))
	}
	if bad, is := firstByWords(truths); is {
		return bad
	}
	n := 0
	for _, v := range truths {
		n += int(v.Num)
	}
	return api.Value{Kind: 3, Num: int64(n % 2)}
}

// folding is a call that makes one value of a list, and the document's word on it.
type folding struct {
	name        string
	call, words func(l list) api.Value
}

// ofNumbers is the calls that take the numbers of a list.
func ofNumbers() []folding {
	return []folding{{"Sum", Sum, sumByWords}, {"Product", Product, productByWords}, {"Squares", Squares, squaresByWords}, {"Least", Least, leastByWords}, {"Most", Most, mostByWords}, {"Mean", Mean, meanByWords}}
}

// ofAll is all calls that make one value of a list.
func ofAll() []folding {
	return append(ofNumbers(), folding{"Concat", Concat, concatByWords}, folding{"Xor", Xor, xorByWords})
}

// kinds is what Count may be asked for.
func kinds() []int {
	return []int{0, 1, 2, 3, 4, 5, 6, -1, -2, 256, 257, 1 << 32, 1<<32 + 1, math.MinInt, math.MinInt + 1, math.MaxInt, math.MaxInt - 1}
}

// shown is a list as a test tells it, cut off if it is long.
func shown(l list) string { return fmt.Sprintf("%d values, %.200s", len(l), fmt.Sprint(l)) }

// hold holds all calls against the document's words, and has them leave their list as it is.
func hold(t *testing.T, l list) {
	t.Helper()
	before := slices.Clone(l)
	for _, c := range ofAll() {
		got, want := c.call(l), c.words(l)
		if got != want {
			t.Errorf("%s of %s: %v, not %v", c.name, shown(l), got, want)
		}
		if !value.May(got) {
			t.Errorf("%s of %s: %v, which may not be", c.name, shown(l), got)
		}
	}
	holdNumbers(t, l)
	for _, kind := range kinds() {
		if got, want := Count(l, kind), countByWords(l, kind); got != want {
			t.Errorf("Count of %s for %d: %d, not %d", shown(l), kind, got, want)
		}
	}
	if !slices.Equal(l, before) {
		t.Errorf("%s: changed, to %s", shown(before), shown(l))
	}
}

// holdNumbers holds Numbers against the document's words.
func holdNumbers(t *testing.T, l list) {
	t.Helper()
	got, bad := Numbers(l)
	all, wantBad := numbersByWords(l)
	want := []int64{}
	for _, x := range all {
		want = append(want, x.Int64())
	}
	if !slices.Equal(got, want) || bad != wantBad {
		t.Errorf("Numbers of %s: %.200s, %v, not %.200s, %v", shown(l), fmt.Sprint(got), bad, fmt.Sprint(want), wantBad)
	}
}

// row is a list, and what a call should answer.
type row struct {
	l    list
	want api.Value
}

// check has a call answer each row, and the same with what is passed over between: that is for the calls of numbers alone.
func check(t *testing.T, name string, call func(l list) api.Value, rows []row) {
	t.Helper()
	for _, r := range rows {
		if got := call(r.l); got != r.want {
			t.Errorf("%s of %s: %v, not %v", name, shown(r.l), got, r.want)
		}
		if got := call(laidOut(r.l)); got != r.want {
			t.Errorf("%s of %s, laid out: %v, not %v", name, shown(r.l), got, r.want)
		}
	}
}

// someValues is a value or some of each kind, with those that matter to some call.
func someValues() list {
	return append(passed(), number(0), number(1), number(-1), number(10000), number(-10000), number(15000), number(root), number(most), number(least), str("FALSE"), str("true"), badDiv, badNone)
}

// eachTriple has something done with each list of none to three of some values.
func eachTriple(of list, do func(l list)) {
	do(list{})
	for _, a := range of {
		do(list{a})
		for _, b := range of {
			do(list{a, b})
			for _, c := range of {
				do(list{a, b, c})
			}
		}
	}
}

// chanceValue is a value of any kind: most are numbers, which are small, great, or of any size.
func chanceValue(chance *rand.Rand) api.Value {
	texts := []string{"", "a", "7", "TRUE", "FALSE", "\xff", strings.Repeat("b", 20), strings.Repeat("c", 200)}
	switch chance.Intn(12) {
	case 0:
		return empty
	case 1:
		return str(texts[chance.Intn(len(texts))])
	case 2:
		return api.Value{Kind: 3, Num: chance.Int63n(2)}
	case 3:
		if chance.Intn(4) == 0 {
			return fault(1 + chance.Int63n(7))
		}
	case 4, 5:
		return number(chance.Int63n(40001) - 20000)
	case 6:
		return number((most - chance.Int63n(3)) / (1 + chance.Int63n(4)) * (1 - 2*chance.Int63n(2)))
	}
	// The one number that may not be is left out.
	return number(max(least, int64(chance.Uint64())>>chance.Intn(64)))
}

// chanceLists has something done with many lists of up to so many values, the same in each run.
func chanceLists(seed int64, count, size int, do func(chance *rand.Rand, l list)) {
	chance := rand.New(rand.NewSource(seed))
	for range count {
		l := list{}
		for range chance.Intn(size + 1) {
			l = append(l, chanceValue(chance))
		}
		do(chance, l)
	}
}

// All calls

func TestShortListsByTheirWords(t *testing.T) {
	hold(t, nil)
	eachTriple(someValues(), func(l list) { hold(t, l) })
}

func TestListsByTheirWords(t *testing.T) {
	chanceLists(15, 20000, 12, func(_ *rand.Rand, l list) { hold(t, l) })
}

func TestListsOfManyByTheirWords(t *testing.T) {
	const many = 1 << 16
	for _, l := range []list{
		times(many, numbers(1)), times(many, numbers(-1)), times(many, numbers(10000)), times(many, numbers(0)), times(many, numbers(most, least)), times(many, numbers(most/many)), times(many, numbers(most/many, 1)),
		times(many, passed()), times(many, list{empty}), times(many, list{str("")}), times(many, list{right}), times(many+1, list{right}), times(257, numbers(70000)), times(256, numbers(70000)),
		append(times(many, numbers(1)), badNone), append(list{badNone}, times(many, numbers(1))...), append(times(many, list{empty}), number(5)), append(times(many, list{right}), number(5)),
	} {
		hold(t, l)
	}
	chanceLists(151, 20, 1000, func(_ *rand.Rand, l list) { hold(t, l) })
}

// TestFaultsComeFirst has a fault at each place of lists that fail otherwise, and two of which the first one counts. No text there is a fault to Xor.
func TestFaultsComeFirst(t *testing.T) {
	for _, l := range []list{
		{}, {empty, wrong, right, str("TRUE")}, numbers(10000), numbers(10000, 20000, 30000), numbers(most, 1), numbers(most, 1, 0), numbers(least, -1), numbers(most, most, least), numbers(root+1, root+1),
		times(65, list{str("TRUE")}), append(times(65, list{str("TRUE")}), number(most), number(most)),
	} {
		for place := range len(l) + 1 {
			for code := int64(1); code <= 7; code++ {
				second := fault(1 + code%7)
				failing := slices.Insert(slices.Clone(l), place, fault(code))
				holdFault(t, failing, fault(code))
				holdFault(t, append(slices.Clone(failing), second), fault(code))
				holdFault(t, slices.Insert(slices.Clone(failing), place+1, second), fault(code))
			}
		}
	}
}

// holdFault has all calls fail with a fault.
func holdFault(t *testing.T, l list, want api.Value) {
	t.Helper()
	for _, c := range ofAll() {
		if got := c.call(l); got != want {
			t.Errorf("%s of %s: %v, not %v", c.name, shown(l), got, want)
		}
	}
	if got, bad := Numbers(l); len(got) != 0 || bad != want {
		t.Errorf("Numbers of %s: %v, %v, not %v", shown(l), got, bad, want)
	}
}

// TestNoCallChangesItsList also has the room behind a list.
func TestNoCallChangesItsList(t *testing.T) {
	spare := make(list, 0, 64)
	for _, l := range []list{laidOut(numbers(30000, 10000, 20000)), append(passed(), badDiv, number(1)), someValues(), numbers(3, 1, 2), numbers(most, 1), {}} {
		all := append(append(spare[:0], l...), numbers(7, 8, 9)...)
		before := slices.Clone(all)
		for _, c := range ofAll() {
			c.call(all[:len(l)])
		}
		Numbers(all[:len(l)])
		for _, kind := range kinds() {
			Count(all[:len(l)], kind)
		}
		if !slices.Equal(all, before) {
			t.Errorf("%s: changed, to %s", shown(before), shown(all))
		}
	}
}

// TestNothingPanics has values that may not be, too: of those nothing else is promised.
func TestNothingPanics(t *testing.T) {
	odd := list{}
	for _, kind := range kinds() {
		for _, x := range []int64{none, least, -1, 0, 1, 2, 7, 8, most} {
			for _, w := range []string{"", "a", "1", "TRUE", strings.Repeat("b", 257)} {
				odd = append(odd, api.Value{Kind: kind, Num: x, Text: w})
			}
		}
	}
	call := func(l list) {
		for _, c := range ofAll() {
			c.call(l)
		}
		Numbers(l)
		for _, kind := range kinds() {
			Count(l, kind)
		}
	}
	call(odd)
	for _, v := range odd {
		call(list{v})
		call(list{number(1), v, number(2)})
		call(list{v, v, right})
	}
}

// P15.1

func TestNumbers(t *testing.T) {
	for _, x := range []struct {
		l    list
		want []int64
		bad  api.Value
	}{
		{nil, nil, empty}, {list{}, nil, empty}, {passed(), nil, empty},
		{list{empty}, nil, empty}, {list{number(0)}, []int64{0}, empty}, {list{number(70000)}, []int64{70000}, empty}, {list{str("7")}, nil, empty}, {list{right}, nil, empty}, {list{badNone}, nil, badNone},
		{numbers(3, 1, 2), []int64{3, 1, 2}, empty}, {numbers(1, 1, 1), []int64{1, 1, 1}, empty}, {numbers(2, 1, 2), []int64{2, 1, 2}, empty}, {numbers(most, least, 0, most), []int64{most, least, 0, most}, empty},
		{laidOut(numbers(30000, 10000, 30000)), []int64{30000, 10000, 30000}, empty},
		{list{badNone, number(1)}, nil, badNone}, {list{number(1), badNone, number(2)}, nil, badNone}, {list{number(1), badNone}, nil, badNone},
		{list{number(1), badDiv, badNone}, nil, badDiv}, {list{badNone, badDiv}, nil, badNone}, {list{number(most), number(most), badNone}, nil, badNone}, {append(passed(), badNone), nil, badNone},
	} {
		got, bad := Numbers(x.l)
		if !slices.Equal(got, x.want) || bad != x.bad {
			t.Errorf("Numbers of %s: %v, %v, not %v, %v", shown(x.l), got, bad, x.want, x.bad)
		}
	}
}

// TestNumbersAreNewMemory writes into what was answered.
func TestNumbersAreNewMemory(t *testing.T) {
	l := numbers(1, 2, 3)
	first, _ := Numbers(l)
	second, _ := Numbers(l)
	for i := range first {
		first[i] = 9
	}
	first = append(first, 9)
	third, _ := Numbers(l)
	want := []int64{1, 2, 3}
	if !slices.Equal(second, want) || !slices.Equal(third, want) || !slices.Equal(l, numbers(1, 2, 3)) || len(first) != 4 {
		t.Errorf("Numbers: %v and %v of %s, once an earlier answer is written into", second, third, shown(l))
	}
}

func TestSum(t *testing.T) {
	check(t, "Sum", Sum, []row{
		{nil, number(0)}, {list{}, number(0)}, {list{empty}, number(0)}, {list{str("7")}, number(0)}, {list{right}, number(0)}, {list{badNone}, badNone},
		{numbers(0), number(0)}, {numbers(70000), number(70000)}, {numbers(-125000), number(-125000)}, {numbers(most), number(most)}, {numbers(least), number(least)},
		{numbers(10000, 20000, 35000), number(65000)}, {numbers(-1, -1), number(-2)}, {numbers(5, -5), number(0)}, {numbers(1, 1, 1, 1), number(4)}, {times(1000, numbers(3)), number(3000)},
		// There is just room, and just none.
		{numbers(most-1, 1), number(most)}, {numbers(1, most-1), number(most)}, {numbers(most, 0, 0), number(most)}, {numbers(most-2, 1, 1), number(most)},
		{numbers(most, 1), badNum}, {numbers(1, most), badNum}, {numbers(most-1, 2), badNum}, {numbers(most-2, 1, 1, 1), badNum}, {numbers(most, most), badNum},
		{numbers(least+1, -1), number(least)}, {numbers(-1, least+1), number(least)}, {numbers(least, 0), number(least)}, {numbers(least+2, -1, -1), number(least)},
		{numbers(least, -1), badNum}, {numbers(-1, least), badNum}, {numbers(least+1, -2), badNum}, {numbers(least+2, -1, -1, -1), badNum}, {numbers(least, least), badNum},
		{numbers(most, least), number(0)}, {numbers(least, most), number(0)}, {numbers(least, most, most), number(most)}, {numbers(most, least, least), number(least)},
		// What runs over on its way is none, though all of it together would have room.
		{numbers(most, 1, -1), badNum}, {numbers(most, 1, least), badNum}, {numbers(least, -1, 1), badNum}, {numbers(most, most, least, least), badNum}, {numbers(least, -1, most, 1), badNum},
		{numbers(-1, 1, most), number(most)}, {numbers(1, -1, most), number(most)}, {numbers(-1, most, 1), number(most)}, {numbers(1, least, -1), number(least)},
		{append(numbers(most, 1), badNone), badNone}, {append(list{badDiv}, numbers(most, 1)...), badDiv}, {list{number(1), badNone, badDiv, number(2)}, badNone},
	})
}

func TestProduct(t *testing.T) {
	check(t, "Product", Product, []row{
		{nil, number(0)}, {list{}, number(0)}, {list{empty}, number(0)}, {list{str("7")}, number(0)}, {list{right}, number(0)}, {list{badNone}, badNone},
		{numbers(0), number(0)}, {numbers(1), number(1)}, {numbers(-1), number(-1)}, {numbers(70000), number(70000)}, {numbers(-125000), number(-125000)}, {numbers(most), number(most)}, {numbers(least), number(least)},
		{numbers(20000, 30000), number(60000)}, {numbers(20000, 30000, 40000), number(240000)}, {numbers(-20000, 30000), number(-60000)}, {numbers(-20000, -30000), number(60000)}, {numbers(-10000, -10000, -10000), number(-10000)}, {numbers(15000, 15000), number(22500)},
		{numbers(0, 30000), number(0)}, {numbers(30000, 20000, 0), number(0)}, {numbers(30000, 0, 20000), number(0)}, {numbers(most, 0), number(0)}, {numbers(0, most, most), number(0)},
		// At each step what comes out is rounded, and so another order may round otherwise.
		{numbers(1, 5000), number(1)}, {numbers(1, 4999), number(0)}, {numbers(-15, 5000), number(-8)}, {numbers(15, 5000), number(8)}, {numbers(-1, 5000), number(-1)}, {numbers(1, 1), number(0)},
		{numbers(1, 5000, 5000, 5000), number(1)}, {numbers(5000, 5000, 5000, 1), number(0)}, {numbers(1, 5000, 20000), number(2)}, {numbers(1, 20000, 5000), number(1)}, {numbers(1, 1, 1000000000), number(0)}, {numbers(1000000000, 1, 1), number(10)},
		{numbers(3333, 3333, 3333), number(370)}, {numbers(3, 3333, 30000), number(3)}, {numbers(3, 30000, 3333), number(3)}, {numbers(2, 2500, 40000), number(4)}, {numbers(2, 40000, 2500), number(2)},
		// What runs over is none, also ahead of a 0, and of what would bring it back.
		{numbers(most, 10000), number(most)}, {numbers(10000, most), number(most)}, {numbers(most, -10000), number(least)}, {numbers(least, -10000), number(most)}, {numbers(most/2, 20000), number(most - 1)}, {numbers(most/2+1, 20000), badNum}, {numbers(-most/2-1, 20000), badNum},
		{numbers(most, 10001), badNum}, {numbers(least, 10001), badNum}, {numbers(most, 9999), number(9222449699651090329)}, {numbers(most, 20000), badNum}, {numbers(most, most), badNum}, {numbers(least, least), badNum}, {numbers(root, root), number(9223372036818029970)}, {numbers(root+1, root+1), badNum},
		{numbers(most, 20000, 0), badNum}, {numbers(most, most, 0), badNum}, {numbers(least, 20000, 0, 10000), badNum}, {numbers(most, 20000, 5000), badNum}, {numbers(most, 5000, 20000), badNum}, {numbers(most-1, 5000, 20000), number(most - 1)},
		{append(numbers(most, 20000), badNone), badNone}, {append(list{badDiv}, numbers(most, 20000)...), badDiv}, {list{number(0), badNone, badDiv, number(2)}, badNone},
	})
}

func TestSquares(t *testing.T) {
	check(t, "Squares", Squares, []row{
		{nil, number(0)}, {list{}, number(0)}, {list{empty}, number(0)}, {list{str("7")}, number(0)}, {list{right}, number(0)}, {list{badNone}, badNone},
		{numbers(0), number(0)}, {numbers(10000), number(10000)}, {numbers(-10000), number(10000)}, {numbers(70000), number(490000)}, {numbers(-125000), number(1562500)}, {numbers(15000), number(22500)},
		{numbers(30000, 40000), number(250000)}, {numbers(-30000, -40000), number(250000)}, {numbers(-30000, 40000), number(250000)}, {numbers(10000, 20000, 30000), number(140000)}, {numbers(20000, -20000), number(80000)},
		// Each square is rounded by itself: 0.005 has 0.000025, 0.007 has 0.000049, 0.0071 has 0.00005041, 0.0122 has 0.00014884.
		{numbers(1), number(0)}, {numbers(50), number(0)}, {numbers(70), number(0)}, {numbers(71), number(1)}, {numbers(-71), number(1)}, {numbers(122), number(1)}, {numbers(123), number(2)}, {numbers(150), number(2)}, {numbers(-150), number(2)}, {numbers(250), number(6)}, {numbers(350), number(12)}, {numbers(50, 50, 50, 50), number(0)}, {times(1000, numbers(70)), number(0)}, {times(1000, numbers(71)), number(1000)}, {numbers(71, 71), number(2)}, {numbers(100, 70), number(1)}, {numbers(100, -71), number(2)},
		// One square may not be, or their sum.
		{numbers(root), number(9223372036818029970)}, {numbers(-root), number(9223372036818029970)}, {numbers(root + 1), badNum}, {numbers(-root - 1), badNum}, {numbers(most), badNum}, {numbers(least), badNum}, {numbers(0, most), badNum}, {numbers(most, 0), badNum}, {numbers(1, least, 1), badNum},
		{numbers(root, root), badNum}, {numbers(root, 10000), number(9223372036818039970)}, {numbers(root, 606183), number(most - 54)}, {numbers(root, 606183, 735), number(most)}, {numbers(root, 606183, 739), badNum}, {numbers(root, 606183, 735, 70), number(most)}, {numbers(root, 606183, 735, 71), badNum}, {numbers(735, -606183, -root), number(most)}, {numbers(739, -606183, -root), badNum},
		{append(numbers(most, 1), badNone), badNone}, {append(list{badDiv}, numbers(root, root)...), badDiv}, {list{number(1), badNone, badDiv, number(2)}, badNone},
	})
}

// P15.2

func TestLeast(t *testing.T) {
	check(t, "Least", Least, []row{
		{nil, number(0)}, {list{}, number(0)}, {list{empty}, number(0)}, {list{str("-7")}, number(0)}, {list{right}, number(0)}, {list{badNone}, badNone},
		{numbers(0), number(0)}, {numbers(70000), number(70000)}, {numbers(-125000), number(-125000)}, {numbers(most), number(most)}, {numbers(least), number(least)},
		{numbers(1, 2, 3), number(1)}, {numbers(3, 2, 1), number(1)}, {numbers(2, 1, 3), number(1)}, {numbers(10000, 20000), number(10000)}, {numbers(5, 5), number(5)}, {numbers(-1, -2, -3), number(-3)}, {numbers(-3, -2, -1), number(-3)}, {numbers(-2, -3, -1), number(-3)},
		{numbers(1, -1, 0), number(-1)}, {numbers(0, 1), number(0)}, {numbers(-1, 0), number(-1)}, {numbers(most, least), number(least)}, {numbers(least, most), number(least)}, {numbers(most, most), number(most)}, {numbers(most-1, most), number(most - 1)}, {numbers(most, most-1), number(most - 1)}, {numbers(least+1, least, least+1), number(least)},
		{append(numbers(1, 2), badNone), badNone}, {append(list{badDiv}, numbers(1, 2)...), badDiv}, {list{number(1), badNone, badDiv, number(-2)}, badNone},
	})
}

func TestMost(t *testing.T) {
	check(t, "Most", Most, []row{
		{nil, number(0)}, {list{}, number(0)}, {list{empty}, number(0)}, {list{str("7")}, number(0)}, {list{right}, number(0)}, {list{badNone}, badNone},
		{numbers(0), number(0)}, {numbers(70000), number(70000)}, {numbers(-125000), number(-125000)}, {numbers(most), number(most)}, {numbers(least), number(least)},
		{numbers(1, 2, 3), number(3)}, {numbers(3, 2, 1), number(3)}, {numbers(1, 3, 2), number(3)}, {numbers(10000, 20000), number(20000)}, {numbers(5, 5), number(5)}, {numbers(-1, -2, -3), number(-1)}, {numbers(-3, -2, -1), number(-1)}, {numbers(-2, -1, -3), number(-1)},
		{numbers(-1, 1, 0), number(1)}, {numbers(0, -1), number(0)}, {numbers(1, 0), number(1)}, {numbers(most, least), number(most)}, {numbers(least, most), number(most)}, {numbers(least, least), number(least)}, {numbers(least+1, least), number(least + 1)}, {numbers(least, least+1), number(least + 1)}, {numbers(most-1, most, most-1), number(most)},
		{append(numbers(1, 2), badNone), badNone}, {append(list{badDiv}, numbers(1, 2)...), badDiv}, {list{number(1), badNone, badDiv, number(2)}, badNone},
	})
}

func TestMean(t *testing.T) {
	check(t, "Mean", Mean, []row{
		{nil, badDiv}, {list{}, badDiv}, {list{empty}, badDiv}, {list{str("7")}, badDiv}, {list{right}, badDiv}, {list{empty, str("7"), right}, badDiv},
		// Though there is no number, a fault counts.
		{list{badNone}, badNone}, {list{fault(7)}, fault(7)}, {append(passed(), badNone), badNone}, {list{fault(2), empty}, fault(2)},
		{numbers(0), number(0)}, {numbers(70000), number(70000)}, {numbers(-125000), number(-125000)}, {numbers(1), number(1)}, {numbers(most), number(most)}, {numbers(least), number(least)},
		{numbers(10000, 20000), number(15000)}, {numbers(10000, 20000, 30000), number(20000)}, {numbers(5, -5), number(0)}, {numbers(0, 0, 0), number(0)}, {numbers(0, 0, 30000), number(10000)},
		{numbers(10000, 0, 0), number(3333)}, {numbers(20000, 0, 0), number(6667)}, {numbers(-10000, 0, 0), number(-3333)}, {numbers(-20000, 0, 0), number(-6667)}, {numbers(1, 0, 0), number(0)}, {numbers(2, 0, 0), number(1)}, {numbers(-1, 0, 0), number(0)}, {numbers(-2, 0, 0), number(-1)},
		// Halves go further from 0.
		{numbers(1, 0), number(1)}, {numbers(-1, 0), number(-1)}, {numbers(1, 2), number(2)}, {numbers(-1, -2), number(-2)}, {numbers(2, 3), number(3)}, {numbers(-2, -3), number(-3)}, {numbers(1, 1, 0, 0), number(1)}, {numbers(1, 0, 0, 0), number(0)}, {numbers(-3, 1, 0, 0), number(-1)}, {numbers(-1, 0, 0, 0), number(0)}, {numbers(2, -1), number(1)}, {numbers(-2, 1), number(-1)},
		{numbers(most-1, 1), number(most/2 + 1)}, {numbers(least+1, -1), number(-most/2 - 1)}, {numbers(most, least), number(0)}, {numbers(most, 0), number(most/2 + 1)}, {numbers(most, 0, 0), number(3074457345618258602)},
		{numbers(most, 1), badNum}, {numbers(least, -1), badNum}, {numbers(most, most), badNum}, {numbers(least, least), badNum}, {numbers(most, 1, -1), badNum}, {numbers(-1, most, 1), number(3074457345618258602)},
		{append(numbers(most, 1), badNone), badNone}, {append(list{badDiv}, numbers(most, 1)...), badDiv}, {list{number(1), badNone, badDiv, number(2)}, badNone}, {append(numbers(1, 2), badNone), badNone},
	})
}

// P15.3

func TestCount(t *testing.T) {
	all := append(laidOut(numbers(0, 10000, most, least, 10000)), badDiv, badNone, fault(7), str(" "), str("\x00"), empty)
	n := len(all)
	// Six rows of what is passed over have an empty value and an empty text each.
	for _, x := range []struct {
		l                      list
		numbers, blanks, other int
	}{
		{nil, 0, 0, 0}, {list{}, 0, 0, 0},
		{list{empty}, 0, 1, 0}, {list{str("")}, 0, 1, 1}, {list{str("a")}, 0, 0, 1}, {list{str(" ")}, 0, 0, 1}, {list{str("7")}, 0, 0, 1}, {list{str("0")}, 0, 0, 1}, {list{str(strings.Repeat("a", 256))}, 0, 0, 1},
		{numbers(0), 1, 0, 1}, {numbers(70000), 1, 0, 1}, {numbers(most), 1, 0, 1}, {numbers(least), 1, 0, 1}, {list{wrong}, 0, 0, 1}, {list{right}, 0, 0, 1},
		{list{badDiv}, 0, 0, 1}, {list{fault(2)}, 0, 0, 1}, {list{fault(3)}, 0, 0, 1}, {list{badNum}, 0, 0, 1}, {list{badNone}, 0, 0, 1}, {list{fault(6)}, 0, 0, 1}, {list{fault(7)}, 0, 0, 1},
		{numbers(1, 1, 1), 3, 0, 3}, {list{badDiv, number(1), badNone, empty}, 1, 1, 3}, {list{empty, empty, str(""), str("")}, 0, 4, 2}, {list{number(most), number(most), empty, badNum}, 2, 1, 3},
		{all, 5, 13, n - 7}, {times(1000, all), 5000, 13000, 1000 * (n - 7)},
	} {
		for _, kind := range kinds() {
			want := x.other
			switch kind {
			case 0:
				want = x.blanks
			case 1:
				want = x.numbers
			}
			if got := Count(x.l, kind); got != want {
				t.Errorf("Count of %s for %d: %d, not %d", shown(x.l), kind, got, want)
			}
		}
	}
}

// P15.4

// as is so many letters a.
func as(count int) api.Value { return str(strings.Repeat("a", count)) }

func TestConcat(t *testing.T) {
	for _, x := range []row{
		{nil, str("")}, {list{}, str("")}, {list{empty}, str("")}, {list{str("")}, str("")}, {list{empty, str(""), empty}, str("")},
		{list{str("a")}, str("a")}, {list{number(0)}, str("0")}, {list{number(-125000)}, str("-12.5")}, {list{right}, str("TRUE")}, {list{wrong}, str("FALSE")}, {numbers(most), str("922337203685477.5807")}, {numbers(least), str("-922337203685477.5807")}, {list{badNone}, badNone},
		{list{str("a"), str("b"), str("c")}, str("abc")}, {list{str("c"), str("b"), str("a")}, str("cba")}, {list{str("a"), empty, str("b")}, str("ab")}, {list{str(" a"), str(" "), str("b ")}, str(" a b ")}, {numbers(70000, 70000), str("77")}, {numbers(10000, -10000), str("1-1")}, {list{right, wrong, right}, str("TRUEFALSETRUE")}, {list{number(70000), str(" is "), right, empty, str("!")}, str("7 is TRUE!")},
		{list{str("007"), str("1.50")}, str("0071.50")}, {list{str("\xc3"), str("\xa9")}, str("\u00e9")}, {list{str("\xff"), str("\x00")}, str("\xff\x00")}, {list{str("\""), str("#DIV"), str("?")}, str("\"#DIV?")},
		{list{badNone, str("a")}, badNone}, {list{str("a"), badNone}, badNone}, {list{str("a"), badNone, str("b")}, badNone}, {list{badDiv, badNone}, badDiv}, {list{empty, badNone, badDiv}, badNone},
		// There is just room, and just none.
		{list{as(256)}, as(256)}, {list{as(255), as(1)}, as(256)}, {list{as(1), as(255)}, as(256)}, {list{as(128), empty, str(""), as(128)}, as(256)}, {list{as(256), empty, str("")}, as(256)}, {list{as(252), right}, str(strings.Repeat("a", 252) + "TRUE")}, {list{as(251), wrong}, str(strings.Repeat("a", 251) + "FALSE")}, {times(256, list{as(1)}), as(256)}, {times(256, numbers(0)), str(strings.Repeat("0", 256))}, {list{str(strings.Repeat("\u00e9", 128))}, str(strings.Repeat("\u00e9", 128))},
		{list{as(256), as(1)}, badValue}, {list{as(1), as(256)}, badValue}, {list{as(128), as(129)}, badValue}, {list{as(256), number(0)}, badValue}, {list{as(253), right}, badValue}, {list{as(252), wrong}, badValue}, {times(257, list{as(1)}), badValue}, {times(257, numbers(0)), badValue}, {list{str(strings.Repeat("\u00e9", 128)), str("a")}, badValue}, {times(1000, list{as(256)}), badValue}, {times(13, numbers(most)), badValue}, {times(64, list{right}), str(strings.Repeat("TRUE", 64))}, {times(65, list{right}), badValue},
		// A fault counts also behind what has no room.
		{list{as(256), as(256), badNone}, badNone}, {list{badDiv, as(256), as(256)}, badDiv}, {list{as(256), badNum, as(256)}, badNum}, {list{as(256), as(1), badNone, badDiv}, badNone},
	} {
		if got := Concat(x.l); got != x.want {
			t.Errorf("Concat of %s: %v, not %v", shown(x.l), got, x.want)
		}
	}
}

func TestXor(t *testing.T) {
	for _, x := range []row{
		{nil, wrong}, {list{}, wrong}, {list{empty}, wrong}, {list{empty, empty, empty}, wrong}, {list{right}, right}, {list{wrong}, wrong},
		{numbers(0), wrong}, {numbers(1), right}, {numbers(-1), right}, {numbers(10000), right}, {numbers(20000), right}, {numbers(most), right}, {numbers(least), right}, {numbers(10000, 20000), wrong}, {numbers(20000, 30000, 40000), right}, {numbers(0, 0), wrong}, {numbers(0, 5), right},
		{list{str("TRUE")}, right}, {list{str("FALSE")}, wrong}, {list{str("TRUE"), str("TRUE")}, wrong}, {list{str("TRUE"), str("FALSE")}, right}, {list{str("FALSE"), str("FALSE")}, wrong},
		{list{str("true")}, badValue}, {list{str("")}, badValue}, {list{str("1")}, badValue}, {list{str("0")}, badValue}, {list{str("a")}, badValue}, {list{str("TRUE ")}, badValue}, {list{str("false")}, badValue}, {list{str("#DIV")}, badValue},
		{list{right, right}, wrong}, {list{right, wrong}, right}, {list{wrong, right}, right}, {list{wrong, wrong}, wrong}, {list{right, right, right}, right}, {list{right, wrong, right}, wrong}, {list{right, number(50000), str("TRUE"), empty}, right}, {list{right, number(50000), str("TRUE"), right, wrong}, wrong}, {times(1000, list{right}), wrong}, {times(1001, list{right}), right},
		{list{badNone}, badNone}, {list{right, badNone}, badNone}, {list{badNone, right}, badNone}, {list{right, badNone, right}, badNone}, {list{badDiv, badNone}, badDiv}, {list{badNone, badDiv}, badNone},
		// A text that is no truth is a fault as any other one: which is the first counts.
		{list{str("a"), badNone}, badValue}, {list{badNone, str("a")}, badNone}, {list{right, str(""), badDiv}, badValue}, {list{right, badDiv, str("")}, badDiv}, {list{right, right, str("7")}, badValue}, {list{str("true"), right}, badValue}, {list{str("TRUE"), badNone, str("true")}, badNone},
	} {
		if got := Xor(x.l); got != x.want {
			t.Errorf("Xor of %s: %v, not %v", shown(x.l), got, x.want)
		}
	}
}

// P15.5

// TestOrderChangesNoBestAndNoSum has sums in another order, too, as long as neither way runs over.
func TestOrderChangesNoBestAndNoSum(t *testing.T) {
	other := 0
	chanceLists(155, 20000, 8, func(chance *rand.Rand, l list) {
		if _, fails := firstByWords(l); fails {
			return
		}
		turned := slices.Clone(l)
		chance.Shuffle(len(turned), func(i, j int) { turned[i], turned[j] = turned[j], turned[i] })
		if a, b := Least(l), Least(turned); a != b {
			t.Errorf("Least of %s: %v, and %v of %s", shown(l), a, b, shown(turned))
		}
		if a, b := Most(l), Most(turned); a != b {
			t.Errorf("Most of %s: %v, and %v of %s", shown(l), a, b, shown(turned))
		}
		switch a, b := Sum(l), Sum(turned); {
		case a == b:
		case a == badNum || b == badNum:
			other++
		default:
			t.Errorf("Sum of %s: %v, and %v of %s", shown(l), a, b, shown(turned))
		}
	})
	if other == 0 {
		t.Error("no list runs over in one order alone")
	}
}

// TestNoFaultGetsLost has whatever lists with a fault somewhere.
func TestNoFaultGetsLost(t *testing.T) {
	chanceLists(156, 5000, 12, func(chance *rand.Rand, l list) {
		l = slices.Insert(l, chance.Intn(len(l)+1), fault(1+chance.Int63n(7)))
		for _, c := range ofAll() {
			if got := c.call(l); got.Kind != 4 {
				t.Errorf("%s of %s: %v, which is no fault", c.name, shown(l), got)
			}
		}
		if got, bad := Numbers(l); len(got) != 0 || bad.Kind != 4 {
			t.Errorf("Numbers of %s: %v, %v", shown(l), got, bad)
		}
		faults := list{}
		for _, v := range l {
			if v.Kind == 4 {
				faults = append(faults, v)
			}
		}
		if got := Count(l, 4) - Count(slices.DeleteFunc(slices.Clone(l), func(v api.Value) bool { return v.Kind == 4 }), 4); got != len(faults) {
			t.Errorf("Count of %s: %d faults, not %d", shown(l), got, len(faults))
		}
	})
}

// FuzzAll makes lists of bytes, nine of them a value, and holds all calls against the document's words.
func FuzzAll(f *testing.F) {
	f.Add([]byte("\x01\x7f\xff\xff\xff\xff\xff\xff\xff\x01\x00\x00\x00\x00\x00\x00\x00\x01"), "a", "7")
	f.Add([]byte("\x01\x80\x00\x00\x00\x00\x00\x00\x01\x04\x00\x00\x00\x00\x00\x00\x00\x05"), "TRUE", "")
	f.Add([]byte("\x02\x00\x00\x00\x00\x00\x00\x00\x00\x03\x00\x00\x00\x00\x00\x00\x00\x01"), strings.Repeat("b", 253), "FALSE")
	f.Fuzz(func(t *testing.T, b []byte, u, w string) {
		l := list{}
		for ; len(b) >= 9; b = b[9:] {
			x := binary.BigEndian.Uint64(b[1:9])
			all := list{empty, number(max(least, int64(x))), str(u[:min(256, len(u))]), wrong, fault(int64(1 + x%7)), number(int64(x) >> 32), right, str(w[:min(256, len(w))])}
			l = append(l, all[int(b[0])%len(all)])
		}
		hold(t, l)
	})
}
