package look

import (
	"fmt"
	"math"
	"math/big"
	"math/rand"
	"slices"
	"strings"
	"testing"

	"oculus/api"
	"oculus/crit"
)

// The greatest decimal, the least one, and the one number of 64 bits that may not be.
const (
	greatest = int64(9223372036854775807)
	least    = int64(-9223372036854775807)
	none     = int64(math.MinInt64)
)

// The values of each kind, written out. A number is told in ten-thousandths.

func num(x int64) api.Value   { return api.Value{Kind: 1, Num: x} }
func str(t string) api.Value  { return api.Value{Kind: 2, Text: t} }
func fault(n int64) api.Value { return api.Value{Kind: 4, Num: n} }

// n is a whole number.
func n(x int64) api.Value { return num(x * 10000) }

var (
	empty = api.Value{}
	wrong = api.Value{Kind: 3}
	right = api.Value{Kind: 3, Num: 1}
)

// The faults.
var (
	badDiv   = fault(1)
	badValue = fault(2)
	badRef   = fault(3)
	badNum   = fault(4)
	badNone  = fault(5)
	badAuth  = fault(6)
	badCycle = fault(7)
)

// faults is all faults.
func faults() []api.Value {
	return []api.Value{badDiv, badValue, badRef, badNum, badNone, badAuth, badCycle}
}

// someValues holds each kind, more than one of each, and what nearly is another one.
func someValues() []api.Value {
	return append(faults(), empty, n(0), n(1), n(-1), num(1), num(25000), num(greatest), num(least),
		str(""), str("a"), str("A"), str("ab"), str("0"), str("1"), str("TRUE"), str("*"), str("?"), str("<>a"), str("\xff"), str(strings.Repeat("a", 256)), wrong, right)
}

// notValues is values that may not be.
func notValues() []api.Value {
	return []api.Value{
		{Kind: -1}, {Kind: 5}, {Kind: math.MaxInt}, {Kind: math.MinInt},
		{Num: 1}, {Text: "a"}, {Kind: 1, Num: none}, {Kind: 1, Text: "1"}, {Kind: 2, Num: 1}, {Kind: 2, Text: strings.Repeat("a", 257)},
		{Kind: 3, Num: 2}, {Kind: 3, Num: -1}, {Kind: 3, Num: 1, Text: "TRUE"}, {Kind: 4}, {Kind: 4, Num: 8}, {Kind: 4, Num: -1}, {Kind: 4, Num: 1, Text: "#DIV"},
	}
}

// table is a table of values.
func table(rows, cols int, l ...api.Value) api.Table { return api.Table{Rows: rows, Cols: cols, V: l} }

// across is a table of one row, down of one column.
func across(l ...api.Value) api.Table { return table(1, len(l), l...) }
func down(l ...api.Value) api.Table   { return table(len(l), 1, l...) }

// counted is a table of the whole numbers from 1 on.
func counted(rows, cols int) api.Table {
	l := []api.Value{}
	for i := range rows * cols {
		l = append(l, n(int64(i+1)))
	}
	return table(rows, cols, l...)
}

// turned is a table of which the rows are the other one's columns.
func turned(t api.Table) api.Table {
	l := []api.Value{}
	for col := range t.Cols {
		for row := range t.Rows {
			l = append(l, t.V[row*t.Cols+col])
		}
	}
	return table(t.Cols, t.Rows, l...)
}

// farInts is whole numbers about 0, about what a table may have, and out to both ends of the type's range.
func farInts() []int {
	return []int{math.MinInt, math.MinInt + 1, math.MinInt / 2, -1 << 33, -1 << 32, -1 << 31, -1001, -1000, -2, -1, 0, 1, 2, 3, 4, 5, 10, 100, 999, 1000, 1001, 1002, 1 << 16,
		1<<31 - 1, 1 << 31, 1<<32 - 1, 1 << 32, 1<<32 + 1, 1 << 33, 1 << 62, 1<<62 + 1, math.MaxInt/2 + 1, math.MaxInt - 1, math.MaxInt}
}

// odd is tables that have not Rows times Cols values, or more than 1000.
func odd() []api.Table {
	return []api.Table{
		table(1, 1), table(1, 1, n(1), n(2)), table(2, 2, n(1), n(2), n(3)), table(2, 2, n(1), n(2), n(3), n(4), n(5)),
		table(3, 2, n(1), n(2), n(3)), table(2, 3, n(1), n(2), n(3), n(4)), table(1, 0, n(1)), table(0, 1, n(1)), table(0, 0, n(1)),
		table(-1, 1, n(1)), table(1, -1, n(1)), table(math.MaxInt, 2, n(1), n(2)), table(2, math.MaxInt, n(1), n(2)), table(math.MinInt, 1, n(1)), table(1, math.MinInt, n(1)),
		table(1<<32, 1<<32, n(1)), table(1<<31, 1<<33), table(1<<62, 4), table(4, 1<<62), table(math.MaxInt, math.MaxInt, n(1)), table(math.MinInt, math.MinInt, n(1)),
		counted(1, 1001), counted(1001, 1), counted(7, 143), counted(143, 7), counted(40, 50), table(1, 1001, counted(1, 1000).V...), table(1000, 1, counted(1, 1001).V...),
	}
}

// shown is a value or a table, cut short.
func shown(x any) string { return fmt.Sprintf("%.300s", fmt.Sprintf("%+v", x)) }

// eachList is all lists of some values, of lengths from 1 to a most.
func eachList(l []api.Value, most int, do func([]api.Value)) {
	var more func(so []api.Value)
	more = func(so []api.Value) {
		if len(so) > 0 {
			do(so)
		}
		if len(so) < most {
			for _, v := range l {
				more(append(slices.Clone(so), v))
			}
		}
	}
	more(nil)
}

// chanceTable is a table of up to 6 rows and columns, of few values, so that some are there several times.
func chanceTable(r *rand.Rand) api.Table {
	t := table(1+r.Intn(6), 1+r.Intn(6))
	few, all := 1+r.Intn(5), someValues()
	for range t.Rows * t.Cols {
		v := all[r.Intn(len(all))]
		if r.Intn(3) > 0 {
			v = n(int64(r.Intn(few)))
		}
		t.V = append(t.V, v)
	}
	return t
}

// Next come the document's words on each call.

// shapedByWords tells whether a table has Rows times Cols values, both being at least 1, and at most 1000 of them.
func shapedByWords(t api.Table) bool {
	product := new(big.Int).Mul(big.NewInt(int64(t.Rows)), big.NewInt(int64(t.Cols)))
	return t.Rows >= 1 && t.Cols >= 1 && product.Cmp(big.NewInt(int64(len(t.V)))) == 0 && len(t.V) <= 1000
}

// atByWords is the document's word on At: rows are told one behind the other.
func atByWords(t api.Table, row, col int) (api.Value, bool) {
	place := 0
	for r := 1; shapedByWords(t) && r <= t.Rows; r++ {
		for c := 1; c <= t.Cols; c++ {
			if r == row && c == col {
				return t.V[place], true
			}
			place++
		}
	}
	return empty, false
}

// alikeByWords tells whether a value that is looked for is found as one.
func alikeByWords(x, v api.Value) bool {
	nothing := []api.Value{empty, num(0), str(""), wrong}
	switch {
	case x.Kind == 4 || v.Kind == 4:
		return false
	case x == empty:
		return slices.Contains(nothing, v)
	case v == empty:
		return slices.Contains(nothing, x)
	}
	return x == v
}

// matchByWords is the document's word on Match.
func matchByWords(x api.Value, t api.Table) (int, bool) {
	for i, v := range t.V {
		if alikeByWords(x, v) {
			return i + 1, true
		}
	}
	return 0, false
}

// downByWords is the document's word on Down.
func downByWords(x api.Value, t api.Table, col int) api.Value {
	switch {
	case !shapedByWords(t):
		return badValue
	case x.Kind == 4:
		return x
	case col < 1 || col > t.Cols:
		return badRef
	}
	for row := range t.Rows {
		if alikeByWords(x, t.V[row*t.Cols]) {
			return t.V[row*t.Cols+col-1]
		}
	}
	return badNone
}

// acrossByWords is the document's word on Across.
func acrossByWords(x api.Value, t api.Table, row int) api.Value {
	if !shapedByWords(t) {
		return badValue
	}
	return downByWords(x, turned(t), row)
}

// hitByWords is what crit.Of of a value hits.
func hitByWords(t api.Table, by api.Value) []api.Value {
	l := []api.Value{}
	c, ok := crit.Of(by)
	for _, v := range t.V {
		if ok && crit.Hits(c, v) {
			l = append(l, v)
		}
	}
	return l
}

// rounded is a over b, to the nearest whole number, and of two that are as near that further from 0.
func rounded(a, b *big.Int) *big.Int {
	twice := new(big.Int).Mul(new(big.Int).Abs(a), big.NewInt(2))
	twice.Add(twice, b)
	twice.Quo(twice, new(big.Int).Mul(b, big.NewInt(2)))
	if a.Sign() < 0 {
		twice.Neg(twice)
	}
	return twice
}

// mayBig tells whether a decimal may be.
func mayBig(x *big.Int) bool { return new(big.Int).Abs(x).Cmp(big.NewInt(greatest)) <= 0 }

// sumBig is the sum of numbers, from the first one on; #NUM, if one, or a sum on the way, may not be.
func sumBig(l []*big.Int) api.Value {
	sum := new(big.Int)
	for _, x := range l {
		sum.Add(sum, x)
		if !mayBig(x) || !mayBig(sum) {
			return badNum
		}
	}
	return num(sum.Int64())
}

// numbersBig is the numbers of a list.
func numbersBig(l []api.Value) []*big.Int {
	xs := []*big.Int{}
	for _, v := range l {
		if v.Kind == 1 {
			xs = append(xs, big.NewInt(v.Num))
		}
	}
	return xs
}

// countIfByWords, sumIfByWords and meanIfByWords are the document's words on the calls of that name.
func countIfByWords(t api.Table, by api.Value) api.Value {
	if by.Kind == 4 {
		return by
	}
	return n(int64(len(hitByWords(t, by))))
}

func sumIfByWords(t api.Table, by api.Value) api.Value {
	if by.Kind == 4 {
		return by
	}
	return sumBig(numbersBig(hitByWords(t, by)))
}

func meanIfByWords(t api.Table, by api.Value) api.Value {
	sum, l := sumIfByWords(t, by), numbersBig(hitByWords(t, by))
	switch {
	case sum.Kind == 4:
		return sum
	case len(l) == 0:
		return badDiv
	}
	return num(rounded(big.NewInt(sum.Num), big.NewInt(int64(len(l)))).Int64())
}

// productsByWords is the document's word on Products.
func productsByWords(a, b api.Table) api.Value {
	if !shapedByWords(a) || !shapedByWords(b) || a.Rows != b.Rows || a.Cols != b.Cols {
		return badValue
	}
	for _, t := range []api.Table{a, b} {
		for _, v := range t.V {
			if v.Kind == 4 {
				return v
			}
		}
	}
	l := []*big.Int{}
	for i, v := range a.V {
		product := new(big.Int)
		if v.Kind == 1 && b.V[i].Kind == 1 {
			product.Mul(big.NewInt(v.Num), big.NewInt(b.V[i].Num))
		}
		l = append(l, rounded(product, big.NewInt(10000)))
	}
	return sumBig(l)
}

// Each of these holds a call against the words.

func holdAt(t *testing.T, in api.Table, row, col int) {
	t.Helper()
	want, wantOk := atByWords(in, row, col)
	if got, ok := At(in, row, col); got != want || ok != wantOk {
		t.Errorf("At of %s, %d, %d: %s, %v, want %s, %v", shown(in), row, col, shown(got), ok, shown(want), wantOk)
	}
}

func holdMatch(t *testing.T, x api.Value, in api.Table) {
	t.Helper()
	want, wantOk := matchByWords(x, in)
	if got, ok := Match(x, in); got != want || ok != wantOk {
		t.Errorf("Match of %s in %s: %d, %v, want %d, %v", shown(x), shown(in), got, ok, want, wantOk)
	}
}

func holdDown(t *testing.T, x api.Value, in api.Table, col int) {
	t.Helper()
	if got, want := Down(x, in, col), downByWords(x, in, col); got != want {
		t.Errorf("Down of %s in %s, %d: %s, want %s", shown(x), shown(in), col, shown(got), shown(want))
	}
}

func holdAcross(t *testing.T, x api.Value, in api.Table, row int) {
	t.Helper()
	if got, want := Across(x, in, row), acrossByWords(x, in, row); got != want {
		t.Errorf("Across of %s in %s, %d: %s, want %s", shown(x), shown(in), row, shown(got), shown(want))
	}
}

func holdIf(t *testing.T, in api.Table, by api.Value) {
	t.Helper()
	if got, want := CountIf(in, by), countIfByWords(in, by); got != want {
		t.Errorf("CountIf of %s by %s: %s, want %s", shown(in), shown(by), shown(got), shown(want))
	}
	if got, want := SumIf(in, by), sumIfByWords(in, by); got != want {
		t.Errorf("SumIf of %s by %s: %s, want %s", shown(in), shown(by), shown(got), shown(want))
	}
	if got, want := MeanIf(in, by), meanIfByWords(in, by); got != want {
		t.Errorf("MeanIf of %s by %s: %s, want %s", shown(in), shown(by), shown(got), shown(want))
	}
}

func holdProducts(t *testing.T, a, b api.Table) {
	t.Helper()
	if got, want := Products(a, b), productsByWords(a, b); got != want {
		t.Errorf("Products of %s and %s: %s, want %s", shown(a), shown(b), shown(got), shown(want))
	}
}

// P18.1: May.

func TestMay(t *testing.T) {
	for _, c := range []struct {
		in   api.Table
		want bool
	}{
		{api.Table{}, false}, {table(1, 1), false}, {table(1, 1, empty), true}, {table(1, 1, n(1)), true}, {table(1, 1, badCycle), true},
		{table(0, 0, n(1)), false}, {table(0, 1), false}, {table(1, 0), false}, {table(0, 1, n(1)), false}, {table(1, 0, n(1)), false},
		{table(-1, -1, n(1)), false}, {table(-2, -2, n(1), n(2), n(3), n(4)), false}, {table(-1, 1, n(1)), false}, {table(1, -1, n(1)), false},
		{table(2, 3, counted(1, 5).V...), false}, {counted(2, 3), true}, {table(2, 3, counted(1, 7).V...), false}, {table(3, 3, counted(2, 3).V...), false},
		{table(2, 4, counted(3, 3).V...), false}, {table(1, 6, counted(2, 3).V...), true}, {table(6, 1, counted(2, 3).V...), true}, {table(2, 2, counted(2, 3).V...), false},
		{counted(1, 1000), true}, {counted(1000, 1), true}, {counted(25, 40), true}, {counted(40, 25), true}, {counted(2, 500), true}, {counted(1, 999), true}, {counted(27, 37), true},
		{counted(1, 1001), false}, {counted(1001, 1), false}, {counted(7, 143), false}, {counted(11, 91), false}, {counted(1000, 2), false}, {counted(1000, 1000), false},
		{table(1, 1000, counted(1, 1001).V...), false}, {table(1, 1001, counted(1, 1000).V...), false}, {table(1000, 1, counted(1, 999).V...), false},
		{table(math.MinInt, math.MinInt), false}, {table(math.MaxInt, math.MaxInt, n(1)), false}, {table(math.MinInt, 1, n(1)), false}, {table(1, math.MaxInt, n(1)), false},
	} {
		if got := May(c.in); got != c.want {
			t.Errorf("May of %d times %d with %d values: %v", c.in.Rows, c.in.Cols, len(c.in.V), got)
		}
	}
}

func TestMayOfManyShapes(t *testing.T) {
	l := counted(1, 1200).V
	for _, rows := range farInts() {
		for _, cols := range farInts() {
			for _, size := range []int{0, 1, 2, 3, 4, 5, 6, 8, 9, 10, 20, 25, 100, 500, 999, 1000, 1001, 1002, 1200} {
				in := table(rows, cols, l[:size]...)
				if got := May(in); got != shapedByWords(in) {
					t.Errorf("May of %d times %d with %d values: %v", rows, cols, size, got)
				}
			}
		}
	}
	for rows := -3; rows < 40; rows++ {
		for cols := -3; cols < 40; cols++ {
			for d := -41; d <= 41; d++ {
				size := rows*cols + d
				if size < 0 || size > len(l) {
					continue
				}
				in := table(rows, cols, l[:size]...)
				if got := May(in); got != shapedByWords(in) {
					t.Errorf("May of %d times %d with %d values: %v", rows, cols, size, got)
				}
			}
		}
	}
}

// wrapped is a number of columns by which an odd number of rows, their product wrapped round at 64 bits, has just so many values.
func wrapped(rows, size int) int {
	all := new(big.Int).Lsh(big.NewInt(1), 64)
	cols := new(big.Int).ModInverse(big.NewInt(int64(rows)), all)
	cols.Mod(cols.Mul(cols, big.NewInt(int64(size))), all)
	return int(cols.Uint64())
}

func TestAProductThatWrapsRoundIsNotSoMany(t *testing.T) {
	met := 0
	for rows := 3; rows < 400; rows += 2 {
		for size := range 1001 {
			cols := wrapped(rows, size)
			if rows*cols != size {
				t.Fatalf("%d times %d is not %d", rows, cols, size)
			}
			in := table(rows, cols, counted(1, size).V...)
			if shapedByWords(in) {
				continue
			}
			if cols > 0 {
				met++
			}
			for _, in := range []api.Table{in, table(cols, rows, in.V...)} {
				if May(in) {
					t.Errorf("%d times %d may not have %d values", in.Rows, in.Cols, size)
				}
				if v, ok := At(in, 1, 1); ok || v != empty {
					t.Errorf("%d times %d with %d values: %s stands there", in.Rows, in.Cols, size, shown(v))
				}
				if v := Down(n(1), in, 1); v != badValue {
					t.Errorf("Down in %d times %d with %d values: %s", in.Rows, in.Cols, size, shown(v))
				}
				if v := Products(in, in); v != badValue {
					t.Errorf("Products of %d times %d with %d values: %s", in.Rows, in.Cols, size, shown(v))
				}
			}
			if size > 3 && rows > 30 {
				break
			}
		}
	}
	if met < 100 {
		t.Errorf("just %d such tables were met", met)
	}
}

func TestMayOfValues(t *testing.T) {
	for _, shape := range [][2]int{{1, 1}, {1, 5}, {5, 1}, {3, 3}, {25, 40}} {
		size := shape[0] * shape[1]
		for _, place := range []int{0, size / 2, size - 1} {
			for _, v := range someValues() {
				in := counted(shape[0], shape[1])
				in.V[place] = v
				if !May(in) {
					t.Errorf("%v with %s at %d may be", shape, shown(v), place)
				}
			}
			for _, v := range notValues() {
				in := counted(shape[0], shape[1])
				in.V[place] = v
				if May(in) {
					t.Errorf("%v with %s at %d may not be", shape, shown(v), place)
				}
			}
		}
	}
}

// P18.1: At.

func TestAt(t *testing.T) {
	in := table(2, 3, n(1), str("b"), right, empty, badDiv, n(6))
	for _, c := range []struct {
		row, col int
		want     api.Value
		ok       bool
	}{
		{1, 1, n(1), true}, {1, 2, str("b"), true}, {1, 3, right, true}, {2, 1, empty, true}, {2, 2, badDiv, true}, {2, 3, n(6), true},
		{0, 1, empty, false}, {1, 0, empty, false}, {-1, 1, empty, false}, {1, -1, empty, false}, {3, 1, empty, false}, {1, 4, empty, false}, {0, 4, empty, false}, {2, 0, empty, false},
		{math.MinInt, 1, empty, false}, {1, math.MinInt, empty, false}, {math.MaxInt, 1, empty, false}, {1, math.MaxInt, empty, false}, {math.MinInt, math.MinInt, empty, false},
	} {
		if got, ok := At(in, c.row, c.col); got != c.want || ok != c.ok {
			t.Errorf("At %d, %d: %s, %v", c.row, c.col, shown(got), ok)
		}
	}
}

func TestAtOfEachPlace(t *testing.T) {
	for rows := 1; rows < 6; rows++ {
		for cols := 1; cols < 6; cols++ {
			for row := -2; row < 8; row++ {
				for col := -2; col < 8; col++ {
					holdAt(t, counted(rows, cols), row, col)
				}
			}
			for _, far := range farInts() {
				holdAt(t, counted(rows, cols), far, 1)
				holdAt(t, counted(rows, cols), 1, far)
				holdAt(t, counted(rows, cols), far, far)
				holdAt(t, counted(rows, cols), far, cols)
				holdAt(t, counted(rows, cols), rows, far)
			}
		}
	}
	for _, in := range []api.Table{counted(1, 1000), counted(1000, 1), counted(25, 40), counted(40, 25)} {
		for _, row := range []int{0, 1, 2, in.Rows - 1, in.Rows, in.Rows + 1} {
			for _, col := range []int{0, 1, 2, in.Cols - 1, in.Cols, in.Cols + 1} {
				holdAt(t, in, row, col)
			}
		}
	}
}

func TestNothingStandsInAnOddTable(t *testing.T) {
	for _, in := range append(odd(), api.Table{}) {
		for _, row := range farInts() {
			for _, col := range farInts() {
				if v, ok := At(in, row, col); ok || v != empty {
					t.Errorf("At %d, %d of %s: %s, %v", row, col, shown(in), shown(v), ok)
				}
			}
		}
	}
}

// P18.1: Match.

func TestMatch(t *testing.T) {
	for _, c := range []struct {
		x    api.Value
		in   api.Table
		want int
	}{
		{n(1), across(n(1)), 1}, {n(1), across(n(2)), 0}, {n(3), counted(2, 3), 3}, {n(4), counted(2, 3), 4}, {n(6), counted(2, 3), 6}, {n(7), counted(2, 3), 0}, {n(5), counted(3, 2), 5},
		{n(1000), counted(25, 40), 1000}, {n(1), counted(25, 40), 1}, {n(41), counted(25, 40), 41}, {n(0), counted(25, 40), 0},
		{n(2), across(n(1), n(2), n(2), n(2)), 2}, {str("a"), down(str("A"), str("ab"), str("a"), str("a")), 3}, {right, table(2, 2, wrong, right, right, wrong), 2},
		{empty, across(n(1), n(0)), 2}, {empty, across(str("a"), str("")), 2}, {empty, across(right, wrong), 2}, {empty, across(n(1), empty), 2}, {empty, across(n(1), str("a"), right), 0},
		{n(0), across(n(1), empty), 2}, {str(""), across(str("a"), empty), 2}, {wrong, across(right, empty), 2}, {n(1), across(empty), 0}, {str("a"), across(empty), 0}, {right, across(empty), 0},
		{n(0), across(str(""), wrong, str("0")), 0}, {str(""), across(n(0), wrong), 0}, {wrong, across(n(0), str("")), 0},
		{empty, across(wrong, str(""), n(0), empty), 1}, {n(0), across(empty, n(0)), 1}, {n(0), across(n(0), empty), 1},
		{n(1), across(str("1"), right, n(1)), 3}, {str("1"), across(n(1), str("1")), 2}, {right, across(n(1), str("TRUE"), right), 3}, {str("TRUE"), across(right, str("TRUE")), 2},
		{n(1), across(badDiv, badCycle, n(1)), 3}, {empty, across(badDiv, badRef, empty), 3}, {str("a"), down(badNone, str("b"), badAuth, str("a")), 4}, {n(1), across(badDiv), 0},
		{badDiv, across(badDiv), 0}, {badValue, across(n(1), n(2)), 0}, {badNum, across(empty, badNum, n(4)), 0},
		{str("*"), across(str("a"), str("*")), 2}, {str("a*"), across(str("ab")), 0}, {str(">0"), across(n(1)), 0}, {str("<>"), across(n(1), str("<>")), 2},
		{num(10001), across(n(1), num(9999), num(10001)), 3}, {num(greatest), across(num(least), num(greatest)), 2}, {num(least), across(num(greatest), num(least)), 2},
	} {
		if got, ok := Match(c.x, c.in); got != c.want || ok != (c.want > 0) {
			t.Errorf("Match of %s in %s: %d, %v", shown(c.x), shown(c.in), got, ok)
		}
	}
}

func TestMatchOfAllInAll(t *testing.T) {
	eachList(someValues(), 2, func(l []api.Value) {
		for _, x := range someValues() {
			holdMatch(t, x, across(l...))
			holdMatch(t, x, down(l...))
		}
	})
	eachList([]api.Value{empty, n(0), n(1), str(""), str("a"), wrong, right, badDiv, badNone}, 4, func(l []api.Value) {
		for _, x := range someValues() {
			holdMatch(t, x, down(l...))
			if len(l) == 4 {
				holdMatch(t, x, table(2, 2, l...))
			}
		}
	})
}

// P18.2.

// prices is a table with what is there several times, and with a fault and what is empty among the first values.
func prices() api.Table {
	return table(6, 3,
		str("ann"), n(1), right,
		badDiv, n(2), empty,
		str("bob"), badNum, n(3),
		empty, n(4), str("none"),
		str("ann"), n(5), wrong,
		n(7), empty, str("ann"))
}

func TestDown(t *testing.T) {
	for _, c := range []struct {
		x    api.Value
		col  int
		want api.Value
	}{
		{str("ann"), 1, str("ann")}, {str("ann"), 2, n(1)}, {str("ann"), 3, right}, {str("bob"), 1, str("bob")}, {str("bob"), 2, badNum}, {str("bob"), 3, n(3)},
		{n(7), 1, n(7)}, {n(7), 2, empty}, {n(7), 3, str("ann")}, {n(0), 2, n(4)}, {str(""), 3, str("none")}, {wrong, 2, n(4)}, {empty, 2, n(4)}, {n(0), 1, empty}, {empty, 1, empty},
		{n(1), 1, badNone}, {n(5), 2, badNone}, {right, 3, badNone}, {str("none"), 1, badNone}, {str("a*"), 2, badNone}, {str("Ann"), 2, badNone}, {str("7"), 2, badNone},
		{str("ann"), 0, badRef}, {str("ann"), -1, badRef}, {str("ann"), 4, badRef}, {str("ann"), 6, badRef}, {str("ann"), math.MinInt, badRef}, {str("ann"), math.MaxInt, badRef},
		{n(1), 0, badRef}, {n(1), 4, badRef}, {empty, -3, badRef},
		{badDiv, 1, badDiv}, {badDiv, 2, badDiv}, {badCycle, 3, badCycle}, {badAuth, 0, badAuth}, {badNone, 4, badNone}, {badValue, math.MinInt, badValue}, {badNum, math.MaxInt, badNum},
	} {
		if got := Down(c.x, prices(), c.col); got != c.want {
			t.Errorf("Down of %s, %d: %s", shown(c.x), c.col, shown(got))
		}
		if got := Across(c.x, turned(prices()), c.col); got != c.want {
			t.Errorf("Across of %s, %d: %s", shown(c.x), c.col, shown(got))
		}
	}
}

func TestAcrossIsNoDown(t *testing.T) {
	in := table(2, 3, n(1), n(2), n(3), n(4), n(5), n(6))
	for _, c := range []struct {
		x            api.Value
		place        int
		down, across api.Value
	}{
		{n(1), 1, n(1), n(1)}, {n(1), 2, n(2), n(4)}, {n(1), 3, n(3), badRef}, {n(2), 2, badNone, n(5)}, {n(3), 1, badNone, n(3)}, {n(3), 2, badNone, n(6)}, {n(4), 2, n(5), badNone},
		{n(4), 3, n(6), badRef}, {n(4), 1, n(4), badNone}, {n(6), 2, badNone, badNone}, {n(7), 3, badNone, badRef}, {n(1), 4, badRef, badRef},
	} {
		if got := Down(c.x, in, c.place); got != c.down {
			t.Errorf("Down of %s, %d: %s", shown(c.x), c.place, shown(got))
		}
		if got := Across(c.x, in, c.place); got != c.across {
			t.Errorf("Across of %s, %d: %s", shown(c.x), c.place, shown(got))
		}
	}
}

func TestDownAndAcrossOfOneValue(t *testing.T) {
	for _, v := range someValues() {
		for _, x := range someValues() {
			for _, place := range farInts() {
				holdDown(t, x, across(v), place)
				holdAcross(t, x, across(v), place)
			}
		}
	}
}

func TestDownAndAcrossOfBigTables(t *testing.T) {
	for _, in := range []api.Table{counted(1, 1000), counted(1000, 1), counted(25, 40), counted(40, 25), counted(2, 500), counted(500, 2)} {
		for _, x := range []int64{0, 1, 2, 39, 40, 41, 500, 501, 961, 976, 999, 1000, 1001} {
			for _, place := range []int{0, 1, 2, in.Rows - 1, in.Rows, in.Rows + 1, in.Cols - 1, in.Cols, in.Cols + 1} {
				holdDown(t, n(x), in, place)
				holdAcross(t, n(x), in, place)
			}
		}
	}
}

func TestDownAndAcrossOfOddTables(t *testing.T) {
	for _, in := range odd() {
		for _, x := range someValues() {
			for _, place := range []int{math.MinInt, -1, 0, 1, 2, math.MaxInt} {
				if got := Down(x, in, place); got != badValue {
					t.Errorf("Down of %s in %s, %d: %s", shown(x), shown(in), place, shown(got))
				}
				if got := Across(x, in, place); got != badValue {
					t.Errorf("Across of %s in %s, %d: %s", shown(x), shown(in), place, shown(got))
				}
			}
		}
	}
}

func TestDownAndAcrossOfTablesByChance(t *testing.T) {
	r := rand.New(rand.NewSource(18))
	for range 4000 {
		in := chanceTable(r)
		for _, x := range append(someValues(), in.V[r.Intn(len(in.V))], in.V[0], n(2), n(3), n(4)) {
			place := r.Intn(9) - 1
			holdDown(t, x, in, place)
			holdAcross(t, x, in, place)
			holdMatch(t, x, in)
		}
	}
}

// P18.3.

// goods is a table that holds each kind.
func goods() api.Table {
	return table(4, 4,
		n(1), n(2), num(25000), n(-3),
		str("apple"), str("pear"), str(""), str("2"),
		right, wrong, empty, n(2),
		badDiv, badNone, str("plum"), str("TRUE"))
}

func TestIf(t *testing.T) {
	for _, c := range []struct {
		by               api.Value
		count, sum, mean api.Value
	}{
		{n(2), n(2), n(4), n(2)}, {n(1), n(1), n(1), n(1)}, {n(-3), n(1), n(-3), n(-3)}, {n(0), n(0), n(0), badDiv}, {n(7), n(0), n(0), badDiv},
		{right, n(1), n(0), badDiv}, {wrong, n(1), n(0), badDiv}, {empty, n(2), n(0), badDiv}, {str(""), n(2), n(0), badDiv},
		{str("apple"), n(1), n(0), badDiv}, {str("Apple"), n(0), n(0), badDiv}, {str("2"), n(2), n(4), n(2)}, {str("2.0"), n(2), n(4), n(2)}, {str("TRUE"), n(1), n(0), badDiv}, {str("FALSE"), n(1), n(0), badDiv},
		{str("=2"), n(2), n(4), n(2)}, {str("<>2"), n(12), num(5000), num(1667)}, {str(">2"), n(1), num(25000), num(25000)}, {str(">=2"), n(3), num(65000), num(21667)},
		{str("<2"), n(2), n(-2), n(-1)}, {str("<=2"), n(4), n(2), num(5000)}, {str("<-3"), n(0), n(0), badDiv}, {str("<=-3"), n(1), n(-3), n(-3)}, {str(">2.4999"), n(1), num(25000), num(25000)},
		{str("="), n(2), n(0), badDiv}, {str("<>"), n(12), num(45000), num(9000)}, {str("<>none"), n(14), num(45000), num(9000)},
		{str("p*"), n(2), n(0), badDiv}, {str("?????"), n(1), n(0), badDiv}, {str("????"), n(3), n(0), badDiv}, {str("*"), n(7), n(0), badDiv}, {str("?"), n(1), n(0), badDiv}, {str("*p*"), n(3), n(0), badDiv},
		{str("<>*"), n(7), num(45000), num(9000)}, {str("<>p*"), n(12), num(45000), num(9000)}, {str("=*p??r"), n(1), n(0), badDiv}, {str("=?e*"), n(1), n(0), badDiv},
		{str("<b"), n(5), n(0), badDiv}, {str(">=pear"), n(2), n(0), badDiv}, {str(">pear"), n(1), n(0), badDiv}, {str("<=pear"), n(6), n(0), badDiv}, {str(">FALSE"), n(1), n(0), badDiv}, {str("<=TRUE"), n(2), n(0), badDiv},
		{str("<>TRUE"), n(13), num(45000), num(9000)}, {str("<>FALSE"), n(13), num(45000), num(9000)},
		{badDiv, badDiv, badDiv, badDiv}, {badValue, badValue, badValue, badValue}, {badRef, badRef, badRef, badRef}, {badNum, badNum, badNum, badNum},
		{badNone, badNone, badNone, badNone}, {badAuth, badAuth, badAuth, badAuth}, {badCycle, badCycle, badCycle, badCycle},
	} {
		for _, in := range []api.Table{goods(), turned(goods()), across(goods().V...), down(goods().V...)} {
			if got := CountIf(in, c.by); got != c.count {
				t.Errorf("CountIf by %s: %s, want %s", shown(c.by), shown(got), shown(c.count))
			}
			if got := SumIf(in, c.by); got != c.sum {
				t.Errorf("SumIf by %s: %s, want %s", shown(c.by), shown(got), shown(c.sum))
			}
			if got := MeanIf(in, c.by); got != c.mean {
				t.Errorf("MeanIf by %s: %s, want %s", shown(c.by), shown(got), shown(c.mean))
			}
		}
	}
}

func TestIfOfAllThatAreHit(t *testing.T) {
	for _, c := range []struct {
		in               api.Table
		by               api.Value
		count, sum, mean api.Value
	}{
		{counted(25, 40), str(">0"), n(1000), n(500500), num(5005000)}, {counted(1, 999), str("<>"), n(999), n(499500), n(500)}, {counted(2, 3), str("<=6"), n(6), n(21), num(35000)},
		{counted(25, 40), str(">1000"), n(0), n(0), badDiv}, {counted(25, 40), n(1000), n(1), n(1000), n(1000)}, {counted(25, 40), n(1), n(1), n(1), n(1)},
		{across(num(1), num(2)), str("<1"), n(2), num(3), num(2)}, {across(num(-1), num(-2)), str("<1"), n(2), num(-3), num(-2)}, {across(num(1), n(0), n(0)), str("<1"), n(3), num(1), num(0)},
		{across(empty, empty, str("")), empty, n(3), n(0), badDiv}, {down(right, right), right, n(2), n(0), badDiv}, {across(badDiv, badRef), str("<>"), n(0), n(0), badDiv},
		{across(num(greatest), num(1)), str(">0"), n(2), badNum, badNum}, {across(num(least), num(-1)), str("<0"), n(2), badNum, badNum},
		{across(num(greatest), num(1), num(-1)), str("<>"), n(3), badNum, badNum}, {across(num(greatest), num(-1), num(1)), str("<>"), n(3), num(greatest), num(3074457345618258602)},
		{across(num(greatest), num(1)), str(">1"), n(1), num(greatest), num(greatest)}, {across(num(least), num(greatest)), str("<>"), n(2), n(0), n(0)},
		{across(num(greatest), badDiv, num(1), empty), str(">1"), n(1), num(greatest), num(greatest)},
	} {
		if got := CountIf(c.in, c.by); got != c.count {
			t.Errorf("CountIf of %s by %s: %s", shown(c.in), shown(c.by), shown(got))
		}
		if got := SumIf(c.in, c.by); got != c.sum {
			t.Errorf("SumIf of %s by %s: %s", shown(c.in), shown(c.by), shown(got))
		}
		if got := MeanIf(c.in, c.by); got != c.mean {
			t.Errorf("MeanIf of %s by %s: %s", shown(c.in), shown(c.by), shown(got))
		}
	}
}

// manyBys is what may be looked for: each value alone, and each text behind each operator.
func manyBys() []api.Value {
	l := someValues()
	for _, op := range []string{"=", "<>", "<", "<=", ">", ">="} {
		for _, w := range []string{"", "0", "1", "-0.0001", "2.50", "a", "ab", "A*", "*", "?", "a?", "TRUE", "FALSE", "true", " 1"} {
			l = append(l, str(op+w))
		}
	}
	return l
}

func TestIfOfTables(t *testing.T) {
	eachList(someValues(), 2, func(l []api.Value) {
		for _, by := range manyBys() {
			holdIf(t, across(l...), by)
		}
	})
	r := rand.New(rand.NewSource(183))
	for range 1000 {
		in := chanceTable(r)
		for _, by := range manyBys() {
			holdIf(t, in, by)
		}
	}
}

// P18.4.

func TestProducts(t *testing.T) {
	for _, c := range []struct {
		a, b api.Table
		want api.Value
	}{
		{across(n(2)), across(n(3)), n(6)}, {across(n(1), n(2), n(3)), across(n(4), n(5), n(6)), n(32)}, {counted(2, 2), counted(2, 2), n(30)}, {across(num(25000), n(-4)), across(n(2), num(5000)), n(3)},
		{counted(2, 3), counted(3, 2), badValue}, {across(n(1), n(2)), down(n(1), n(2)), badValue}, {counted(1, 4), counted(2, 2), badValue}, {counted(2, 2), counted(2, 3), badValue}, {counted(2, 2), counted(3, 2), badValue},
		{across(badDiv, n(1)), down(n(1), badNum), badValue}, {across(badDiv), across(n(1), n(2)), badValue},
		{across(badDiv), across(n(1)), badDiv}, {across(n(1)), across(badRef), badRef}, {across(badDiv), across(badRef), badDiv}, {across(n(1), badDiv), across(badRef, n(1)), badDiv},
		{across(n(1), n(1), badCycle), across(badRef, badNum, badNone), badCycle}, {across(n(1), badAuth, badCycle), across(n(1), n(1), n(1)), badAuth}, {across(n(1), n(1), n(1)), across(n(1), badAuth, badCycle), badAuth},
		{across(badCycle, badDiv), across(badRef, badRef), badCycle}, {across(num(greatest), badDiv), across(num(greatest), n(1)), badDiv}, {across(num(greatest), n(1)), across(num(greatest), badRef), badRef},
		{across(str("2")), across(n(3)), n(0)}, {across(n(3)), across(str("2")), n(0)}, {across(right), across(n(3)), n(0)}, {across(n(3)), across(right), n(0)}, {across(empty), across(n(3)), n(0)}, {across(n(3)), across(empty), n(0)},
		{across(right), across(right), n(0)}, {across(str("a")), across(str("2")), n(0)}, {across(empty), across(empty), n(0)}, {across(right, n(2), str("x")), across(n(5), n(3), n(7)), n(6)}, {across(n(5), n(3), n(7)), across(right, n(2), empty), n(6)},
		{across(str("a")), across(badNone), badNone}, {across(badNone), across(empty), badNone}, {across(right), across(num(greatest)), n(0)},
		{across(num(5000)), across(num(1)), num(1)}, {across(num(4999)), across(num(1)), num(0)}, {across(num(-5000)), across(num(1)), num(-1)}, {across(num(-4999)), across(num(1)), num(0)},
		{across(num(5000), num(5000)), across(num(1), num(1)), num(2)}, {across(num(4999), num(4999)), across(num(1), num(1)), num(0)}, {across(num(5000), num(5000)), across(num(1), num(-1)), num(0)},
		{across(num(15000)), across(num(-1)), num(-2)}, {across(num(14999)), across(num(-1)), num(-1)}, {across(num(-5000), num(-5000)), across(num(1), num(3)), num(-3)},
		{across(num(greatest)), across(n(1)), num(greatest)}, {across(num(least)), across(n(1)), num(least)}, {across(num(greatest)), across(n(-1)), num(least)}, {across(num(greatest)), across(num(10001)), badNum},
		{across(num(greatest)), across(num(greatest)), badNum}, {across(num(least)), across(n(2)), badNum}, {across(num(least)), across(num(greatest)), badNum},
		{across(num(greatest), num(1)), across(n(1), n(1)), badNum}, {across(num(least), num(1)), across(n(1), n(-1)), badNum}, {across(num(greatest), num(1), num(-1)), across(n(1), n(1), n(1)), badNum},
		{across(num(greatest), num(-1), num(1)), across(n(1), n(1), n(1)), num(greatest)}, {across(num(greatest), num(greatest)), across(n(1), n(-1)), n(0)},
		{across(num(greatest), num(greatest), num(least), num(least)), across(n(1), n(1), n(1), n(1)), badNum}, {across(num(greatest), num(least), num(greatest), num(least)), across(n(1), n(1), n(1), n(1)), n(0)},
		{across(num(greatest), n(1)), across(n(2), n(1)), badNum}, {across(num(greatest), num(least)), across(n(2), n(2)), badNum}, {across(n(1), num(greatest)), across(n(1), n(2)), badNum},
		{counted(25, 40), counted(25, 40), n(333833500)}, {counted(1, 1000), counted(1, 1000), n(333833500)}, {counted(1, 1000), counted(1000, 1), badValue}, {counted(1000, 1), counted(1000, 1), n(333833500)},
	} {
		if got := Products(c.a, c.b); got != c.want {
			t.Errorf("Products of %s and %s: %s, want %s", shown(c.a), shown(c.b), shown(got), shown(c.want))
		}
	}
}

func TestProductsOfAllShapes(t *testing.T) {
	for rows := 1; rows < 7; rows++ {
		for cols := 1; cols < 7; cols++ {
			for otherRows := 1; otherRows < 7; otherRows++ {
				for otherCols := 1; otherCols < 7; otherCols++ {
					holdProducts(t, counted(rows, cols), counted(otherRows, otherCols))
				}
			}
		}
	}
}

func TestProductsOfOddTables(t *testing.T) {
	for _, in := range odd() {
		for _, other := range append(odd(), in, counted(1, 1), across(badDiv), counted(1, 1000), counted(25, 40)) {
			if got := Products(in, other); got != badValue {
				t.Errorf("Products of %s and %s: %s", shown(in), shown(other), shown(got))
			}
			if got := Products(other, in); got != badValue {
				t.Errorf("Products of %s and %s: %s", shown(other), shown(in), shown(got))
			}
		}
	}
}

func TestProductsOfAllWithAll(t *testing.T) {
	for _, v := range someValues() {
		for _, w := range someValues() {
			holdProducts(t, across(v), across(w))
			for _, x := range someValues() {
				holdProducts(t, across(v, w), across(x, n(1)))
				holdProducts(t, down(n(1), x), down(v, w))
			}
		}
	}
	few := []api.Value{empty, n(1), num(greatest), num(least), num(-5000), str("1"), badDiv, badCycle}
	eachList(few, 2, func(a []api.Value) {
		eachList(few, 2, func(b []api.Value) {
			holdProducts(t, across(a...), across(b...))
		})
	})
}

func TestProductsByChance(t *testing.T) {
	r := rand.New(rand.NewSource(184))
	for range 30000 {
		a, b := table(1, 1+r.Intn(5)), table(1, 0)
		b.Cols = a.Cols
		far := uint(1 + r.Intn(63))
		for range a.Cols {
			a.V = append(a.V, num(max(least, int64(r.Uint64())>>(64-far))))
			b.V = append(b.V, num(max(least, int64(r.Uint64())>>uint(r.Intn(64)))))
		}
		holdProducts(t, a, b)
		holdProducts(t, b, a)
	}
}

// P18.5.

// holdFollows holds what follows for a value and a table.
func holdFollows(t *testing.T, x api.Value, in api.Table) {
	t.Helper()
	place, ok := Match(x, in)
	before := in.V
	if ok {
		if !alikeByWords(x, in.V[place-1]) {
			t.Errorf("Match of %s in %s: %s stands there", shown(x), shown(in), shown(in.V[place-1]))
		}
		v, there := At(in, (place-1)/in.Cols+1, (place-1)%in.Cols+1)
		if !there || v != in.V[place-1] {
			t.Errorf("At the place of %s in %s: %s", shown(x), shown(in), shown(v))
		}
		before = in.V[:place-1]
	}
	for _, v := range before {
		if alikeByWords(x, v) {
			t.Errorf("Match of %s in %s: %s stands ahead of %d", shown(x), shown(in), shown(v), place)
		}
	}
	if x.Kind == 2 {
		all := int64(0)
		for _, v := range in.V {
			if v.Kind != 4 {
				all++
			}
		}
		is, not := CountIf(in, str("="+x.Text)), CountIf(in, str("<>"+x.Text))
		if is.Num+not.Num != all*10000 {
			t.Errorf("by = and by <> %s are hit %s and %s of %s", shown(x), shown(is), shown(not), shown(in))
		}
	}
}

func TestWhatFollows(t *testing.T) {
	whole := across(someValues()...)
	xs := someValues()
	for _, by := range manyBys() {
		if len(by.Text) < 250 {
			xs = append(xs, by)
		}
	}
	for _, x := range xs {
		if len(x.Text) > 250 {
			x.Text = x.Text[:250] // Room for the operator.
		}
		holdFollows(t, x, whole)
		holdFollows(t, x, down(whole.V...))
		eachList(someValues(), 2, func(l []api.Value) { holdFollows(t, x, across(l...)) })
	}
	r := rand.New(rand.NewSource(185))
	for range 1000 {
		in := chanceTable(r)
		for _, x := range append(xs, in.V...) {
			if len(x.Text) <= 250 {
				holdFollows(t, x, in)
			}
		}
	}
}

// TestNoTableIsChanged has tables with spare room behind their values, which stays as it is, too.
func TestNoTableIsChanged(t *testing.T) {
	for _, in := range append(odd(), prices(), goods(), counted(25, 40), across(empty), across(badDiv)) {
		room := append(slices.Clone(in.V), str("spare"), n(9), badCycle, right)
		kept := slices.Clone(room)
		in.V = room[:len(in.V)]
		in.V = in.V[:len(in.V):len(room)]
		same := table(in.Rows, in.Cols, slices.Clone(in.V)...)
		May(in)
		for _, x := range someValues() {
			for _, place := range []int{0, 1, 2, 3, math.MaxInt} {
				At(in, place, place)
				Down(x, in, place)
				Across(x, in, place)
			}
			Match(x, in)
			CountIf(in, x)
			SumIf(in, x)
			MeanIf(in, x)
		}
		Products(in, in)
		Products(in, same)
		Products(same, in)
		if !slices.Equal(room, kept) {
			t.Errorf("%s was changed", shown(in))
		}
	}
}

// TestNothingPanics has values and tables that may not be: of such nothing else is promised.
func TestNothingPanics(t *testing.T) {
	l := append(someValues(), notValues()...)
	tables := []api.Table{}
	for _, rows := range farInts() {
		for _, cols := range farInts() {
			for _, size := range []int{0, 1, 2, 5, len(l)} {
				tables = append(tables, table(rows, cols, l[len(l)-size:]...))
			}
		}
	}
	tables = append(tables, across(l...), down(l...), counted(1001, 2))
	for i, in := range tables {
		for j, x := range l {
			place := farInts()[(i+j)%len(farInts())]
			May(in)
			At(in, place, 1)
			At(in, 1, place)
			Match(x, in)
			Down(x, in, place)
			Across(x, in, place)
			Down(x, in, 1)
			Across(x, in, 1)
			CountIf(in, x)
			SumIf(in, x)
			MeanIf(in, x)
			Products(in, tables[(i+j)%len(tables)])
		}
		Products(in, in)
	}
}

// FuzzAll holds all calls against the document's words.
func FuzzAll(f *testing.F) {
	f.Add(2, 3, "abcdef", "a", int64(0))
	f.Add(1, 4, "\x00\x01\x02\x03", "<>a*", least)
	f.Add(0, 0, "", "=", greatest)
	f.Add(math.MaxInt, 2, "xy", "?", int64(-1))
	f.Fuzz(func(t *testing.T, rows, cols int, w, by string, x int64) {
		w, by, x = w[:min(1100, len(w))], by[:min(256, len(by))], max(least, x)
		kinds := append(someValues(), num(x), num(-x), num(x%100000), str(by))
		in, other := table(rows, cols), table(rows, cols)
		for _, b := range []byte(w) {
			in.V = append(in.V, kinds[int(b)%len(kinds)])
			other.V = append(other.V, kinds[int(b/3)%len(kinds)])
		}
		if got := May(in); got != shapedByWords(in) {
			t.Errorf("May of %s: %v", shown(in), got)
		}
		for _, in := range []api.Table{in, table(1, len(w), in.V...), table(len(w), 1, in.V...)} {
			for _, v := range []api.Value{str(by), num(x), empty, right, badRef} {
				for _, place := range []int{1, 2, rows, cols, int(x)} {
					holdDown(t, v, in, place)
					holdAcross(t, v, in, place)
				}
				holdMatch(t, v, in)
				holdIf(t, in, v)
			}
			if len(w) <= 1000 && len(w) > 0 {
				holdAt(t, in, rows, cols)
			}
			other.Rows, other.Cols = in.Rows, in.Cols
			holdProducts(t, in, other)
			holdProducts(t, other, in)
		}
	})
}
