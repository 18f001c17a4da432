package call

import (
	"fmt"
	"math"
	"math/big"
	"math/rand"
	"slices"
	"strings"
	"testing"
	"unicode/utf8"

	"oculus/api"
	"oculus/digits"
	"oculus/fname"
	"oculus/fold"
	"oculus/look"
	"oculus/order"
	"oculus/power"
	"oculus/round"
	"oculus/text"
	"oculus/value"
)

// The greatest decimal, the least one, and the one number of 64 bits that may not be.
const (
	greatest = int64(9223372036854775807)
	least    = int64(-9223372036854775807)
	none     = int64(math.MinInt64)
)

// full is how many bytes a text has room for.
const full = 256

// The values of each kind, written out. A number is told in ten-thousandths.

func num(x int64) api.Value   { return api.Value{Kind: 1, Num: x} }
func str(t string) api.Value  { return api.Value{Kind: 2, Text: t} }
func fault(n int64) api.Value { return api.Value{Kind: 4, Num: n} }

// n is a whole number.
func n(x int64) api.Value { return num(x * 10000) }

// truth is a truth.
func truth(is bool) api.Value {
	if is {
		return api.Value{Kind: 3, Num: 1}
	}
	return api.Value{Kind: 3}
}

var empty = api.Value{}

// The faults.
var (
	badDiv   = fault(1)
	badValue = fault(2)
	badRef   = fault(3)
	badNum   = fault(4)
	badNone  = fault(5)
	badAuth  = fault(6)
	badCycle = fault(7)
)

// faults is all faults.
func faults() []api.Value {
	return []api.Value{badDiv, badValue, badRef, badNum, badNone, badAuth, badCycle}
}

// as is a value, told shortly: a number by a number, a text by a text, a truth by a truth, what is empty by nil.
func as(x any) api.Value {
	switch x := x.(type) {
	case int:
		return n(int64(x))
	case float64:
		return num(int64(math.Round(x * 10000)))
	case string:
		return str(x)
	case bool:
		return truth(x)
	case api.Value:
		return x
	}
	return empty
}

// table is a table of values that are told shortly, row by row.
func table(rows, cols int, l ...any) api.Table {
	t := api.Table{Rows: rows, Cols: cols}
	for _, x := range l {
		t.V = append(t.V, as(x))
	}
	return t
}

// across is a table of one row, down of one column.
func across(l ...any) api.Table { return table(1, len(l), l...) }
func down(l ...any) api.Table   { return table(len(l), 1, l...) }

// row is a table of one row of values.
func row(l []api.Value) api.Table { return api.Table{Rows: 1, Cols: len(l), V: l} }

// in is the arguments of a call: a table by a table, and one value as told shortly.
func in(l ...any) []api.Table {
	args := []api.Table{}
	for _, x := range l {
		if t, ok := x.(api.Table); ok {
			args = append(args, t)
			continue
		}
		args = append(args, across(x))
	}
	return args
}

// single is the arguments of a call, of one value each.
func single(l ...api.Value) []api.Table {
	args := []api.Table{}
	for _, v := range l {
		args = append(args, row([]api.Value{v}))
	}
	return args
}

// rising is a table of the whole numbers from 1 on.
func rising(rows, cols int) api.Table {
	l := []any{}
	for i := range rows * cols {
		l = append(l, i+1)
	}
	return table(rows, cols, l...)
}

// long is a text of so many bytes.
func long(size int) string { return strings.Repeat("a", size) }

// fewValues holds each kind, and what nearly is another one.
func fewValues() []api.Value {
	l := append(faults(), empty)
	for _, x := range []any{0, 1, -1, 2, 3, 0.0001, -0.5, 2.5, -1.9, 65, num(greatest), num(least), "", "a", "ab", "Ab b", "1", "-02.50", "TRUE", "false", "\xff", "caf\u00e9", long(full), false, true} {
		l = append(l, as(x))
	}
	return l
}

// manyValues holds more of each kind: what stands at the edges of what functions take.
func manyValues() []api.Value {
	l := fewValues()
	for _, x := range []any{-0.0001, 0.5, 0.9999, -0.9999, -2, -3, -14, -15, -14.9, 4, 4.9, 5, 10, 12, 14, 18, 97, 255, 256, 257, 300, 999, 1000, 1000.5, 1001, -1000, -1001,
		55295, 55296, 57343, 57344, 65533, 1114111, 1114111.9, 1114112, num(1 << 31), num(1<<32 + 1), num(1 << 62), num(greatest - 1), num(least + 1), n(1 << 32), n(1<<32 + 1), num(303700049997), num(303700049998),
		" ", "  a  b ", "A", "B", "b", "aa", "aba", "0", "-0", "00", "1.", "1e3", "+1", "2.50", "922337203685477.5807", "922337203685477.5808", "true", "FALSE", "#DIV", "*", "a\xffb\u00e9", "\u00e9\xa9", long(full - 1), long(full-2) + "\u00e9", strings.Repeat("1", 40), strings.Repeat("0", 39) + "7"} {
		l = append(l, as(x))
	}
	return l
}

// notValues is values that may not be.
func notValues() []api.Value {
	return []api.Value{
		{Kind: -1}, {Kind: 5}, {Kind: math.MaxInt}, {Kind: math.MinInt},
		{Num: 1}, {Text: "a"}, {Kind: 1, Num: none}, {Kind: 1, Text: "1"}, {Kind: 2, Num: 1}, {Kind: 2, Text: long(full + 1)}, {Kind: 2, Text: long(5000)},
		{Kind: 3, Num: 2}, {Kind: 3, Num: -1}, {Kind: 3, Num: none}, {Kind: 3, Num: 1, Text: "TRUE"}, {Kind: 4}, {Kind: 4, Num: 8}, {Kind: 4, Num: -1}, {Kind: 4, Num: 1, Text: "#DIV"},
	}
}

// noNumbers is whole numbers that are neither an operator nor a function, out to both ends of the type's range; those among them that are one of a byte, or of 32 bits, are none either.
func noNumbers() []int {
	return []int{math.MinInt, math.MinInt + 1, math.MinInt + 7, math.MinInt / 2, -1 << 33, -1<<32 + 1, -1 << 32, -1 << 31, -1<<31 + 3, -256 + 3, -78, -13, -12, -7, -2, -1, 0,
		79, 80, 100, 127, 128, 255, 256, 257, 256 + 12, 256 + 67, 1<<16 + 1, 1<<31 - 1, 1 << 31, 1<<31 + 1, 1 << 32, 1<<32 + 1, 1<<32 + 12, 1<<32 + 67, 1 << 62, math.MaxInt - 1, math.MaxInt}
}

// odd is tables that have not Rows times Cols values, or more than 1000.
func odd() []api.Table {
	return []api.Table{
		{}, table(1, 1), table(0, 0), table(0, 0, 1), table(0, 1), table(1, 0), table(0, 1, 1), table(1, 0, 1), table(-1, 1, 1), table(1, -1, 1), table(-1, -1, 1), table(-2, -1, 1, 2),
		table(1, 1, 1, 2), table(1, 2, 1), table(2, 1, 1), table(2, 2, 1, 2, 3), table(2, 2, 1, 2, 3, 4, 5), table(3, 2, 1, 2, 3), table(2, 3, 1, 2, 3, 4),
		table(1001, 1, 1), table(1, 1001, 1), table(math.MaxInt, 1, 1), table(1, math.MaxInt, 1), table(math.MinInt, 1, 1), table(1, math.MinInt, 1),
		table(math.MaxInt, math.MaxInt, 1), table(math.MinInt, math.MinInt), table(1<<32, 1<<32), table(1<<31, 1<<33), table(1<<62, 4), table(4, 1<<62), table(1<<63-1, 2, 1, 2),
		table(3, -6148914691236517205, 1), table(-6148914691236517205, 3, 1),
		rising(1, 1001), rising(1001, 1), rising(7, 143), rising(40, 50), {Rows: 1000, Cols: 1, V: rising(1, 1001).V}, {Rows: 1001, Cols: 1, V: rising(1, 1000).V}, {Rows: 1, Cols: 1001, V: rising(1, 1000).V},
	}
}

// shown is whatever it is, cut short.
func shown(x any) string { return fmt.Sprintf("%.400s", fmt.Sprintf("%+v", x)) }

// eachList is all lists of so many of some values.
func eachList(l []api.Value, size int, do func([]api.Value)) {
	if size == 0 {
		do(nil)
		return
	}
	eachList(l, size-1, func(ahead []api.Value) {
		for _, v := range l {
			do(append(slices.Clone(ahead), v))
		}
	})
}

// chance is one of some values.
func chance(r *rand.Rand, l []api.Value) api.Value { return l[r.Intn(len(l))] }

// chanceTable is a table of up to 5 rows and columns; so many of a hundred values in it are any ones, the others small numbers, so that some are there several times.
func chanceTable(r *rand.Rand, hundred int) api.Table {
	t, l := table(1+r.Intn(5), 1+r.Intn(5)), fewValues()
	for range t.Rows * t.Cols {
		v := n(int64(r.Intn(6)))
		if r.Intn(100) < hundred {
			v = chance(r, l)
		}
		t.V = append(t.V, v)
	}
	return t
}

// Next come the document's words.

// numberByWords is a value as a number.
func numberByWords(v api.Value) api.Value {
	switch v.Kind {
	case 0:
		return n(0)
	case 2:
		if x, ok := digits.Read(v.Text); ok {
			return num(x)
		}
		return badValue
	case 3:
		return n(v.Num)
	}
	return v
}

// textByWords is a value as a text.
func textByWords(v api.Value) api.Value {
	switch v.Kind {
	case 0:
		return str("")
	case 1:
		return str(digits.Text(v.Num))
	case 3:
		return str([]string{"FALSE", "TRUE"}[v.Num])
	}
	return v
}

// truthByWords is a value as a truth.
func truthByWords(v api.Value) api.Value {
	switch {
	case v == empty || v == str("FALSE"):
		return truth(false)
	case v == str("TRUE"):
		return truth(true)
	case v.Kind == 2:
		return badValue
	case v.Kind == 1:
		return truth(v.Num != 0)
	}
	return v
}

// bigOr is a number that may be, or #NUM.
func bigOr(x *big.Int) api.Value {
	if new(big.Int).Abs(x).Cmp(big.NewInt(greatest)) > 0 {
		return badNum
	}
	return num(x.Int64())
}

// rounded is a over b, to the nearest whole number, and of two that are as near that further from 0.
func rounded(a, b *big.Int) *big.Int {
	twice := new(big.Int).Mul(new(big.Int).Abs(a), big.NewInt(2))
	twice.Add(twice, new(big.Int).Abs(b))
	twice.Quo(twice, new(big.Int).Mul(new(big.Int).Abs(b), big.NewInt(2)))
	if a.Sign()*b.Sign() < 0 {
		twice.Neg(twice)
	}
	return twice
}

// reckonedByWords is the operator of two numbers.
func reckonedByWords(op int, x, y int64) api.Value {
	a, b, scale := big.NewInt(x), big.NewInt(y), big.NewInt(10000)
	switch op {
	case 1:
		return bigOr(new(big.Int).Add(a, b))
	case 2:
		return bigOr(new(big.Int).Sub(a, b))
	case 3:
		return bigOr(rounded(new(big.Int).Mul(a, b), scale))
	case 4:
		if y == 0 {
			return badDiv
		}
		return bigOr(rounded(new(big.Int).Mul(a, scale), b))
	}
	return got(power.Power(x, y))
}

// standsByWords tells how two values that are no faults stand: -1, 0 or 1.
func standsByWords(a, b api.Value) int {
	if a == empty {
		a = api.Value{Kind: b.Kind}
	}
	if b == empty {
		b = api.Value{Kind: a.Kind}
	}
	switch {
	case a == b:
		return 0
	case a.Kind < b.Kind || a.Kind == b.Kind && (a.Num < b.Num || a.Text < b.Text):
		return -1
	}
	return 1
}

// binaryByWords is the document's word on Binary.
func binaryByWords(op int, a, b api.Value) api.Value {
	take := func(v api.Value) api.Value { return v }
	switch {
	case op >= 1 && op <= 5:
		take = numberByWords
	case op == 6:
		take = textByWords
	case op < 1 || op > 12:
		return badValue
	}
	a, b = take(a), take(b)
	if a.Kind == 4 {
		return a
	}
	if b.Kind == 4 {
		return b
	}
	switch {
	case op <= 5:
		return reckonedByWords(op, a.Num, b.Num)
	case op == 6:
		return said(a.Text+b.Text, len(a.Text+b.Text) <= full)
	}
	way := standsByWords(a, b)
	return truth([]bool{way == 0, way != 0, way == -1, way != 1, way == 1, way != -1}[op-7])
}

// minusByWords is the document's word on Minus.
func minusByWords(a api.Value) api.Value {
	x := numberByWords(a)
	if x.Kind == 1 {
		x.Num = -x.Num
	}
	return x
}

// taken is arguments of a function that were taken: each in the list of its kind, by the places of all arguments.
type taken struct {
	n []int64
	t []string
	v []api.Value
	r []api.Table
}

// function is the document's word on a function: how each argument is taken, by a letter, and what is answered.
//
// n, t, b: a number, a text, a truth; o: a number, 1 if it is not there; v: a value as it is; x: likewise, but a fault is the answer; r: a table; f: a table of which the first fault is the answer; l: all values of one to eight tables, one behind the other, as one table; m: likewise, but the first fault is the answer.
type function struct {
	takes  string
	answer func(a taken) api.Value
}

func got(x int64, ok bool) api.Value {
	if !ok {
		return badNum
	}
	return num(x)
}

func said(t string, ok bool) api.Value {
	if !ok {
		return badValue
	}
	return str(t)
}

// whole is the whole number of a decimal, cut off towards 0.
func whole(x int64) int { return int(x / 10000) }

// or is a whole number, or a fault, if there is none.
func or(x int, ok bool, bad api.Value) api.Value {
	if !ok {
		return bad
	}
	return n(int64(x))
}

// numbersOf is the numbers of a list.
func numbersOf(l []api.Value) []int64 {
	xs := []int64{}
	for _, v := range l {
		if v.Kind == 1 {
			xs = append(xs, v.Num)
		}
	}
	return xs
}

// runesOf is a text's runes, each with its bytes as they are.
func runesOf(t string) []string {
	l := []string{}
	for t != "" {
		_, size := utf8.DecodeRuneInString(t)
		l, t = append(l, t[:size]), t[size:]
	}
	return l
}

// cutByWords is the runes of a text from a place on, so many as there are of those.
func cutByWords(t string, from, many int) api.Value {
	l := runesOf(t)
	from = min(max(from, 0), len(l))
	return str(strings.Join(l[from:from+min(many, len(l)-from)], ""))
}

// signByWords is -1, 0 or 1.
func signByWords(x int64) int64 {
	switch {
	case x < 0:
		return -1
	case x > 0:
		return 1
	}
	return 0
}

// divideByWords is #DIV by 0, or the quotient, or what is left.
func divideByWords(a, b int64, by func(a, b int64) (int64, bool)) api.Value {
	if b == 0 {
		return badDiv
	}
	return got(by(a, b))
}

// reversed is a text's runes from the last one to the first one.
func reversed(t string) string {
	l := runesOf(t)
	slices.Reverse(l)
	return strings.Join(l, "")
}

// findByWords is the place of a text in another one, counted from 1 on.
func findByWords(needle, t string) api.Value {
	l := runesOf(t)
	for i := range len(l) + 1 {
		if strings.HasPrefix(strings.Join(l[i:], ""), needle) {
			return n(int64(i + 1))
		}
	}
	return badValue
}

// modeByWords is the number that is there most often, and of several the first one.
func modeByWords(l []int64) api.Value {
	many := map[int64]int{}
	for _, x := range l {
		many[x]++
	}
	best, most := badNone, 1
	for _, x := range l {
		if many[x] > most {
			best, most = num(x), many[x]
		}
	}
	return best
}

// rankByWords is one more than how many numbers are greater.
func rankByWords(x int64, l []int64) api.Value {
	if !slices.Contains(l, x) {
		return badNone
	}
	place := 1
	for _, y := range l {
		if y > x {
			place++
		}
	}
	return n(int64(place))
}

// matchByWords is the place of the first value that compares with another one as 0.
func matchByWords(x api.Value, t api.Table) api.Value {
	for i, v := range t.V {
		if v.Kind != 4 && standsByWords(x, v) == 0 {
			return n(int64(i + 1))
		}
	}
	return badNone
}

// atByWords is the value of a table in a row and a column, counted from 1 on.
func atByWords(t api.Table, row, col int) api.Value {
	if row < 1 || row > t.Rows || col < 1 || col > t.Cols {
		return badRef
	}
	return t.V[(row-1)*t.Cols+col-1]
}

// ofNumbersByWords is the functions of numbers.
func ofNumbersByWords() map[string]function {
	at := func(step func(x, step int64, mode int) (int64, bool), mode int) func(a taken) api.Value {
		return func(a taken) api.Value { return got(step(a.n[0], a.n[1], mode)) }
	}
	places := func(mode int) func(a taken) api.Value {
		return func(a taken) api.Value { return got(round.Places(a.n[0], whole(a.n[1]), mode)) }
	}
	one := func(of func(x int64) (int64, bool)) function {
		return function{"n", func(a taken) api.Value { return got(of(a.n[0])) }}
	}
	two := func(of func(x, y int64) (int64, bool)) function {
		return function{"nn", func(a taken) api.Value { return got(of(a.n[0], a.n[1])) }}
	}
	return map[string]function{
		"ABS":       {"n", func(a taken) api.Value { return num(a.n[0] * signByWords(a.n[0])) }},
		"SIGN":      {"n", func(a taken) api.Value { return n(signByWords(a.n[0])) }},
		"INT":       one(round.Int),
		"TRUNC":     {"n", func(a taken) api.Value { return num(a.n[0] / 10000 * 10000) }},
		"EVEN":      one(round.Even),
		"ODD":       one(round.Odd),
		"SQRT":      one(power.Sqrt),
		"FACT":      one(power.Fact),
		"CHAR":      {"n", func(a taken) api.Value { return charByWords(whole(a.n[0])) }},
		"VALUE":     {"n", func(a taken) api.Value { return num(a.n[0]) }},
		"CEILING":   {"nn", at(round.Step, 5)},
		"FLOOR":     {"nn", at(round.Step, 4)},
		"ROUND":     {"nn", places(1)},
		"ROUNDUP":   {"nn", places(3)},
		"ROUNDDOWN": {"nn", places(2)},
		"MOD":       {"nn", func(a taken) api.Value { return divideByWords(a.n[0], a.n[1], round.Mod) }},
		"QUOTIENT":  {"nn", func(a taken) api.Value { return divideByWords(a.n[0], a.n[1], round.Quot) }},
		"POWER":     two(power.Power),
		"GCD":       two(power.Gcd),
		"LCM":       two(power.Lcm),
		"COMBIN":    two(power.Combin),
		"TEXT":      {"nn", func(a taken) api.Value { return said(text.Fixed(a.n[0], whole(a.n[1]))) }},
	}
}

// charByWords is the text of a rune.
func charByWords(x int) api.Value {
	return said(string(rune(x)), x >= 1 && x <= 1114111 && (x < 55296 || x > 57343))
}

// ofTextsByWords is the functions of texts.
func ofTextsByWords() map[string]function {
	one := func(of func(t string) string) function {
		return function{"t", func(a taken) api.Value { return str(of(a.t[0])) }}
	}
	return map[string]function{
		"LEN":     {"t", func(a taken) api.Value { return n(int64(utf8.RuneCountInString(a.t[0]))) }},
		"LOWER":   one(text.Lower),
		"UPPER":   one(text.Upper),
		"PROPER":  one(text.Proper),
		"TRIM":    one(text.Trim),
		"REVERSE": one(reversed),
		"CODE": {"t", func(a taken) api.Value {
			r, _ := utf8.DecodeRuneInString(a.t[0])
			return or(int(r), a.t[0] != "", badValue)
		}},
		"EXACT": {"tt", func(a taken) api.Value { return truth(a.t[0] == a.t[1]) }},
		"FIND":  {"tt", func(a taken) api.Value { return findByWords(a.t[0], a.t[1]) }},
		"LEFT": {"tn", func(a taken) api.Value {
			if whole(a.n[1]) < 0 {
				return badValue
			}
			return cutByWords(a.t[0], 0, whole(a.n[1]))
		}},
		"RIGHT": {"tn", func(a taken) api.Value {
			if whole(a.n[1]) < 0 {
				return badValue
			}
			return cutByWords(a.t[0], len(runesOf(a.t[0]))-whole(a.n[1]), min(whole(a.n[1]), len(a.t[0])))
		}},
		"REPT": {"tn", func(a taken) api.Value { return said(text.Rept(a.t[0], whole(a.n[1]))) }},
		"MID": {"tnn", func(a taken) api.Value {
			if whole(a.n[1]) < 1 || whole(a.n[2]) < 0 {
				return badValue
			}
			return cutByWords(a.t[0], whole(a.n[1])-1, whole(a.n[2]))
		}},
		"SUBSTITUTE": {"ttt", func(a taken) api.Value { return said(text.Put(a.t[0], a.t[1], a.t[2])) }},
	}
}

// ofValuesByWords is the functions of a truth, of any value, and of none.
func ofValuesByWords() map[string]function {
	is := func(kind int) function {
		return function{"v", func(a taken) api.Value { return truth(a.v[0].Kind == kind) }}
	}
	return map[string]function{
		"NOT":       {"b", func(a taken) api.Value { return truth(a.v[0] == truth(false)) }},
		"ISBLANK":   is(0),
		"ISNUMBER":  is(1),
		"ISTEXT":    is(2),
		"ISLOGICAL": is(3),
		"ISERROR":   is(4),
		"NA":        {"", func(taken) api.Value { return badNone }},
	}
}

// ofListsByWords is the functions of all values of all arguments.
func ofListsByWords() map[string]function {
	of := func(sum func(l []api.Value) api.Value) function {
		return function{"l", func(a taken) api.Value { return sum(a.r[0].V) }}
	}
	many := func(kind int) function {
		return of(func(l []api.Value) api.Value { return n(int64(fold.Count(l, kind))) })
	}
	return map[string]function{
		"SUM":        of(fold.Sum),
		"PRODUCT":    of(fold.Product),
		"SUMSQ":      of(fold.Squares),
		"MIN":        of(fold.Least),
		"MAX":        of(fold.Most),
		"AVERAGE":    of(fold.Mean),
		"COUNT":      many(1),
		"COUNTA":     many(2),
		"COUNTBLANK": many(0),
		"CONCAT":     of(fold.Concat),
		"XOR":        of(fold.Xor),
		"MEDIAN":     {"m", func(a taken) api.Value { return got(order.Median(numbersOf(a.r[0].V))) }},
		"MODE":       {"m", func(a taken) api.Value { return modeByWords(numbersOf(a.r[0].V)) }},
	}
}

// ofTablesByWords is the functions of tables.
func ofTablesByWords() map[string]function {
	by := func(of func(t api.Table, by api.Value) api.Value) function {
		return function{"rx", func(a taken) api.Value { return of(a.r[0], a.v[1]) }}
	}
	place := func(of func(l []int64, k int) (int64, bool)) function {
		return function{"fn", func(a taken) api.Value { return got(of(numbersOf(a.r[0].V), whole(a.n[1]))) }}
	}
	return map[string]function{
		"COUNTIF":    by(look.CountIf),
		"SUMIF":      by(look.SumIf),
		"AVERAGEIF":  by(look.MeanIf),
		"LARGE":      place(order.Large),
		"SMALL":      place(order.Small),
		"RANK":       {"nf", func(a taken) api.Value { return rankByWords(a.n[0], numbersOf(a.r[1].V)) }},
		"MATCH":      {"xr", func(a taken) api.Value { return matchByWords(a.v[0], a.r[1]) }},
		"VLOOKUP":    {"xrn", func(a taken) api.Value { return look.Down(a.v[0], a.r[1], whole(a.n[2])) }},
		"HLOOKUP":    {"xrn", func(a taken) api.Value { return look.Across(a.v[0], a.r[1], whole(a.n[2])) }},
		"INDEX":      {"rno", func(a taken) api.Value { return atByWords(a.r[0], whole(a.n[1]), whole(a.n[2])) }},
		"SUMPRODUCT": {"rr", func(a taken) api.Value { return look.Products(a.r[0], a.r[1]) }},
	}
}

// words is the document's word on each function that values are handed to.
var words = func() map[string]function {
	all := map[string]function{}
	for _, some := range []map[string]function{ofNumbersByWords(), ofTextsByWords(), ofValuesByWords(), ofListsByWords(), ofTablesByWords()} {
		for name, f := range some {
			all[name] = f
		}
	}
	return all
}()

// others is the functions with arguments of the kinds n, e and t.
func others() []int {
	return []int{fname.And, fname.Choose, fname.Column, fname.Columns, fname.Declass, fname.If, fname.Iferror, fname.Or, fname.Row, fname.Rows, fname.Switch}
}

// shapedByWords tells whether a table has Rows times Cols values, both being at least 1, and at most 1000 of them.
func shapedByWords(t api.Table) bool {
	product := new(big.Int).Mul(big.NewInt(int64(t.Rows)), big.NewInt(int64(t.Cols)))
	return t.Rows >= 1 && t.Cols >= 1 && product.Cmp(big.NewInt(int64(len(t.V)))) == 0 && len(t.V) <= 1000
}

// listed tells whether a function takes all values of all arguments.
func (f function) listed() bool { return f.takes == "l" || f.takes == "m" }

// fits tells whether a function may have so many arguments.
func (f function) fits(size int) bool {
	if f.listed() {
		return size >= 1 && size <= 8
	}
	return size == len(f.takes) || strings.HasSuffix(f.takes, "o") && size == len(f.takes)-1
}

// firstFault is the first fault of a list, or what is empty.
func firstFault(l []api.Value) api.Value {
	for _, v := range l {
		if v.Kind == 4 {
			return v
		}
	}
	return empty
}

// take takes one argument more, and tells the fault that comes of it, or what is empty.
func (a *taken) take(letter byte, t api.Table) api.Value {
	v := t.V[0]
	switch letter {
	case 'n', 'o':
		v = numberByWords(v)
	case 't':
		v = textByWords(v)
	case 'b':
		v = truthByWords(v)
	}
	a.n, a.t, a.v, a.r = append(a.n, v.Num), append(a.t, v.Text), append(a.v, v), append(a.r, t)
	switch letter {
	case 'n', 'o', 't', 'b', 'x':
		return firstFault([]api.Value{v})
	case 'f', 'm':
		return firstFault(t.V)
	}
	return empty
}

// callByWords is the document's word on Call.
func callByWords(fn int, args []api.Table) api.Value {
	f, ok := words[fname.Name(fn)]
	if !ok || !f.fits(len(args)) {
		return badValue
	}
	all := []api.Value{}
	for i, t := range args {
		if !shapedByWords(t) || !f.listed() && strings.IndexByte("rf", f.takes[i]) < 0 && len(t.V) != 1 {
			return badValue
		}
		all = append(all, t.V...)
	}
	if f.listed() {
		args = []api.Table{row(all)}
	}
	a := taken{}
	for i, t := range args {
		if bad := a.take(f.takes[i], t); bad != empty {
			return bad
		}
	}
	if len(args) < len(f.takes) {
		a.take('o', across(1))
	}
	return f.answer(a)
}

// Each of these holds a call against the words.

func holdBinary(t *testing.T, op int, a, b api.Value) {
	t.Helper()
	got, want := Binary(op, a, b), binaryByWords(op, a, b)
	if got != want {
		t.Errorf("%s and %s by operator %d: %s, want %s", shown(a), shown(b), op, shown(got), shown(want))
	}
	if !value.May(got) {
		t.Errorf("%s and %s by operator %d: %s, which may not be", shown(a), shown(b), op, shown(got))
	}
}

func holdMinus(t *testing.T, a api.Value) {
	t.Helper()
	if got, want := Minus(a), minusByWords(a); got != want || !value.May(got) {
		t.Errorf("Minus of %s: %s, want %s", shown(a), shown(got), shown(want))
	}
}

func holdCall(t *testing.T, fn int, args []api.Table) {
	t.Helper()
	got, want := Call(fn, args), callByWords(fn, args)
	if got != want {
		t.Errorf("%s %d of %s: %s, want %s", fname.Name(fn), fn, shown(args), shown(got), shown(want))
	}
	if !value.May(got) {
		t.Errorf("%s %d of %s: %s, which may not be", fname.Name(fn), fn, shown(args), shown(got))
	}
}

// P20.1: Binary.

// ops is the operators by their signs.
func ops() map[string]int {
	return map[string]int{"+": 1, "-": 2, "*": 3, "/": 4, "^": 5, "&": 6, "=": 7, "<>": 8, "<": 9, "<=": 10, ">": 11, ">=": 12}
}

func TestBinary(t *testing.T) {
	for _, c := range []struct {
		a    any
		op   string
		b    any
		want any
	}{
		{2, "+", 3, 5}, {2.5, "+", -0.0001, 2.4999}, {nil, "+", nil, 0}, {true, "+", true, 2}, {"2.50", "+", "007", 9.5}, {"a", "+", 1, badValue}, {1, "+", "", badValue}, {1, "+", "TRUE", badValue},
		{num(greatest), "+", 0, num(greatest)}, {num(greatest), "+", 0.0001, badNum}, {num(greatest - 1), "+", 0.0001, num(greatest)}, {num(least), "+", -0.0001, badNum}, {num(least), "+", num(greatest), 0},
		{2, "-", 3, -1}, {nil, "-", 1, -1}, {true, "-", "1", 0}, {num(least), "-", 0.0001, badNum}, {num(least + 1), "-", 0.0001, num(least)}, {num(greatest), "-", num(least), badNum}, {0, "-", num(least), num(greatest)},
		{2.5, "*", -3, -7.5}, {-0.0015, "*", 0.5, -0.0008}, {0.0001, "*", 0.4999, 0}, {0.0001, "*", 0.5, 0.0001}, {"3", "*", true, 3}, {nil, "*", num(greatest), 0},
		{num(greatest), "*", -1, num(least)}, {num(greatest), "*", 1.0001, badNum}, {num(303700049997), "*", num(303700049997), num(9223372036818029970)}, {num(303700049998), "*", num(303700049998), badNum}, {num(greatest), "*", 2, badNum}, {num(1 << 62), "*", 2, badNum}, {num(1<<62 - 1), "*", 2, num(1<<63 - 2)},
		{1, "/", 3, 0.3333}, {2, "/", 3, 0.6667}, {-1, "/", 8, -0.125}, {1, "/", 0, badDiv}, {0, "/", 0, badDiv}, {1, "/", nil, badDiv}, {1, "/", false, badDiv}, {1, "/", "0", badDiv}, {1, "/", "-0.0000", badDiv}, {nil, "/", 2, 0},
		{num(greatest), "/", 0.5, badNum}, {num(greatest), "/", 0.9999, badNum}, {num(greatest), "/", 1, num(greatest)}, {num(least), "/", -1, num(greatest)}, {num(least), "/", 0.0001, badNum}, {"a", "/", 0, badValue}, {1, "/", "", badValue}, {1, "/", "a", badValue},
		{2, "^", 10, 1024}, {1.5, "^", 5, 7.5938}, {2, "^", -2, 0.25}, {0, "^", 0, 1}, {nil, "^", nil, 1}, {0, "^", -1, badNum}, {0, "^", 1, 0}, {-2, "^", 3, -8}, {4, "^", 0.5, badNum}, {1, "^", 1000, 1}, {1, "^", 1001, badNum}, {1, "^", -1000, 1}, {1, "^", -1001, badNum},
		{2, "^", 49, n(1 << 49)}, {2, "^", 50, badNum}, {num(greatest), "^", 1, num(greatest)}, {num(greatest), "^", 2, badNum}, {0.01, "^", -3, badNum}, {"2", "^", true, 2}, {2, "^", "x", badValue},
		{"a", "&", "b", "ab"}, {"a", "&", 12.5, "a12.5"}, {-0.0001, "&", true, "-0.0001TRUE"}, {nil, "&", nil, ""}, {false, "&", nil, "FALSE"}, {nil, "&", "x", "x"}, {"007", "&", "", "007"},
		{long(full - 1), "&", "b", long(full-1) + "b"}, {long(full), "&", "", long(full)}, {long(full), "&", nil, long(full)}, {long(full), "&", "b", badValue}, {"b", "&", long(full), badValue}, {long(128), "&", long(129), badValue}, {long(252), "&", true, long(252) + "TRUE"}, {long(252), "&", false, badValue}, {long(full - 1), "&", "\u00e9", badValue},
		{1, "=", 1, true}, {1, "=", "1", false}, {"a", "=", "A", false}, {nil, "=", 0, true}, {nil, "=", "", true}, {false, "=", nil, true}, {nil, "=", nil, true}, {nil, "=", true, false}, {nil, "=", "a", false}, {1, "=", true, false},
		{1, "<>", 1, false}, {1, "<>", true, true}, {nil, "<>", 1, true}, {nil, "<>", nil, false},
		{num(greatest), "<", "", true}, {"", "<", false, true}, {"~", "<", true, true}, {2, "<", 10, true}, {"2", "<", "10", false}, {"Z", "<", "a", true}, {false, "<", true, true}, {-1, "<", nil, true}, {nil, "<", "a", true}, {nil, "<", true, true}, {"", "<", nil, false}, {1, "<", 1, false},
		{1, "<=", 1, true}, {2, "<=", 1, false}, {nil, "<=", false, true}, {true, "<=", "a", false},
		{"a", ">", num(greatest), true}, {true, ">", "~", true}, {1, ">", nil, true}, {nil, ">", -1, true}, {1, ">", 1, false}, {1, ">", 2, false},
		{1, ">=", 1, true}, {1, ">=", 2, false}, {"", ">=", nil, true}, {false, ">=", true, false}, {2, ">=", 1, true},
		{badDiv, "+", badRef, badDiv}, {1, "+", badRef, badRef}, {"a", "+", badRef, badValue}, {badRef, "+", "a", badRef}, {badNone, "/", 0, badNone}, {0, "/", badNone, badNone}, {badAuth, "&", badCycle, badAuth}, {long(full), "&", badCycle, badCycle}, {badCycle, "^", "", badCycle},
		{badDiv, "=", badDiv, badDiv}, {badDiv, "=", badRef, badDiv}, {badRef, "<>", badDiv, badRef}, {1, "<", badNum, badNum}, {badNum, ">=", "a", badNum}, {nil, "=", badNone, badNone}, {badNone, "<=", nil, badNone}, {"a", ">", badValue, badValue},
	} {
		if got := Binary(ops()[c.op], as(c.a), as(c.b)); got != as(c.want) {
			t.Errorf("%s %s %s: %s, want %s", shown(as(c.a)), c.op, shown(as(c.b)), shown(got), shown(as(c.want)))
		}
	}
}

func TestBinaryOfAllPairs(t *testing.T) {
	for _, a := range manyValues() {
		for _, b := range manyValues() {
			for op := 0; op <= 13; op++ {
				holdBinary(t, op, a, b)
			}
		}
	}
}

func TestBinaryOfNoOperator(t *testing.T) {
	for _, op := range append(noNumbers(), 13, 14, 60, 67, 78) {
		for _, a := range fewValues() {
			for _, b := range fewValues() {
				if got := Binary(op, a, b); got != badValue {
					t.Errorf("%s and %s by %d: %s", shown(a), shown(b), op, shown(got))
				}
			}
		}
	}
}

// TestBinaryAboutTheEdges has numbers of which what comes has just room, or none.
func TestBinaryAboutTheEdges(t *testing.T) {
	near := []int64{}
	for d := int64(0); d <= 3; d++ {
		near = append(near, d, greatest-d, greatest/2-d, greatest/2+d, greatest/3-d, greatest/3+d, greatest/10000-d, greatest/10000+d, 10000-d, 10000+d, 20000-d, 20000+d, 5000-d, 5000+d, 303700050000-d, 303700049000+d, 1<<32-d, 1<<32+d)
	}
	for _, x := range near {
		for _, y := range near {
			for op := 1; op <= 5; op++ {
				holdBinary(t, op, num(x), num(y))
				holdBinary(t, op, num(-x), num(y))
				holdBinary(t, op, num(x), num(-y))
				holdBinary(t, op, num(-x), num(-y))
			}
		}
	}
}

func TestBinaryOfRoomForTexts(t *testing.T) {
	for size := 0; size <= full; size++ {
		for _, tail := range []api.Value{str(long(full - size)), str(long(max(0, full-size-1)) + "b"), str(long(min(full, full-size+1))), n(1), num(-5), truth(true), truth(false), empty} {
			holdBinary(t, 6, str(long(size)), tail)
			holdBinary(t, 6, tail, str(long(size)))
		}
	}
}

func TestBinaryByChance(t *testing.T) {
	r := rand.New(rand.NewSource(201))
	few := manyValues()[:60]
	for range 100000 {
		a, b := num(max(least, int64(r.Uint64())>>uint(r.Intn(64)))), num(max(least, int64(r.Uint64())>>uint(r.Intn(64))))
		if r.Intn(4) == 0 {
			b = n(int64(r.Intn(60) - 20)) // A power, often.
		}
		holdBinary(t, r.Intn(12)+1, a, b)
		holdBinary(t, r.Intn(12)+1, chance(r, few), b)
	}
}

// P20.1: Minus.

func TestMinus(t *testing.T) {
	for _, c := range []struct{ a, want any }{
		{1, -1}, {-2.5, 2.5}, {0, 0}, {nil, 0}, {true, -1}, {false, 0}, {"2.50", -2.5}, {"-007", 7}, {"", badValue}, {"a", badValue}, {"TRUE", badValue}, {" 1", badValue},
		{num(greatest), num(least)}, {num(least), num(greatest)}, {"922337203685477.5807", num(least)}, {"922337203685477.5808", badValue}, {badDiv, badDiv}, {badCycle, badCycle},
	} {
		if got := Minus(as(c.a)); got != as(c.want) {
			t.Errorf("Minus of %s: %s, want %s", shown(as(c.a)), shown(got), shown(as(c.want)))
		}
	}
	for _, a := range manyValues() {
		holdMinus(t, a)
	}
	r := rand.New(rand.NewSource(202))
	for range 10000 {
		holdMinus(t, num(max(least, int64(r.Uint64())>>uint(r.Intn(64)))))
	}
}

// P20.2: what Call refuses.

// ordinary is arguments that a function answers, if it may have so many.
func ordinary(fn, size int) []api.Table {
	args := []api.Table{}
	for i := range size {
		args = append(args, across(i+1))
	}
	return args
}

func TestCallOfNoFunction(t *testing.T) {
	for _, fn := range noNumbers() {
		for size := range 10 {
			if got := Call(fn, ordinary(fn, size)); got != badValue {
				t.Errorf("%d of %d arguments: %s", fn, size, shown(got))
			}
			if got := Call(fn, slices.Repeat(in(badDiv), size)); got != badValue {
				t.Errorf("%d of %d faults: %s", fn, size, shown(got))
			}
		}
	}
}

// deaf tells whether a fault of a function's arguments is not its answer.
func deaf(fn int) bool {
	return slices.Contains([]int{fname.Na, fname.Isblank, fname.Iserror, fname.Islogical, fname.Isnumber, fname.Istext, fname.Count, fname.Counta, fname.Countblank}, fn)
}

// TestCallOfSoManyArguments has numbers of them from none to more than any function may have: just those that the table of layer 19 names are answered.
func TestCallOfSoManyArguments(t *testing.T) {
	if len(words)+len(others()) != fname.Last {
		t.Fatalf("%d functions have words", len(words))
	}
	for fn := 1; fn <= fname.Last; fn++ {
		for _, size := range []int{0, 1, 2, 3, 4, 5, 6, 7, 8, 9, 10, 16, 256 + 1, 256 + 2, 256 + 3, 1000} {
			holdCall(t, fn, ordinary(fn, size))
			holdCall(t, fn, slices.Repeat(in(badAuth), size))
			f, ok := words[fname.Name(fn)]
			got := Call(fn, slices.Repeat(in(badAuth), size))
			if refused := !ok || !f.fits(size); refused && got != badValue || !refused && !deaf(fn) && got != badAuth {
				t.Errorf("%s of %d faults: %s", fname.Name(fn), size, shown(got))
			}
		}
		holdCall(t, fn, nil)
	}
}

// TestCallOfWhatIsNotRead has the functions whose arguments are not values.
func TestCallOfWhatIsNotRead(t *testing.T) {
	for _, fn := range others() {
		for size := range 10 {
			for _, v := range manyValues() {
				if got := Call(fn, slices.Repeat(single(v), size)); got != badValue {
					t.Errorf("%s of %d times %s: %s", fname.Name(fn), size, shown(v), shown(got))
				}
			}
			if got := Call(fn, slices.Repeat(in(rising(2, 2)), size)); got != badValue {
				t.Errorf("%s of %d tables: %s", fname.Name(fn), size, shown(got))
			}
		}
	}
}

// eachFunction is each function with a number of arguments that it may have.
func eachFunction(do func(fn, size int)) {
	for fn := 1; fn <= fname.Last; fn++ {
		for size := range 9 {
			if f, ok := words[fname.Name(fn)]; ok && f.fits(size) {
				do(fn, size)
			}
		}
	}
}

// TestCallOfOddTables has, in the place of each argument, tables that have not as many values as they say, or too many; faults in other arguments are not told then.
func TestCallOfOddTables(t *testing.T) {
	tables := odd()
	eachFunction(func(fn, size int) {
		for i := range size {
			for _, wrong := range tables {
				for _, args := range [][]api.Table{ordinary(fn, size), slices.Repeat(in(badNone), size)} {
					args[i] = wrong
					if got := Call(fn, args); got != badValue {
						t.Errorf("%s of %s: %s", fname.Name(fn), shown(args), shown(got))
					}
				}
			}
		}
	})
}

// TestCallOfTables has, in the place of each argument, tables that may be: where one value is taken all others are refused.
func TestCallOfTables(t *testing.T) {
	greats := []api.Table{rising(1, 1000), rising(1000, 1), rising(25, 40)}
	tables := []api.Table{across(7), across(2, 7), down(2, 7), across(badNum, badDiv), down(1, badRef), across(nil, nil), rising(2, 3), rising(3, 2), table(2, 2, "a", nil, true, 2)}
	eachFunction(func(fn, size int) {
		for i := range size {
			for _, great := range greats {
				args := ordinary(fn, size)
				args[i] = great
				holdCall(t, fn, args)
			}
			for _, some := range tables {
				for _, args := range [][]api.Table{ordinary(fn, size), slices.Repeat(in(badNone), size), slices.Repeat([]api.Table{some}, size)} {
					args[i] = some
					holdCall(t, fn, args)
					takes := words[fname.Name(fn)].takes
					if !strings.ContainsAny(takes, "lm") && strings.IndexByte("rf", takes[i]) < 0 && len(some.V) > 1 && Call(fn, args) != badValue {
						t.Errorf("%s took %s", fname.Name(fn), shown(args))
					}
				}
			}
		}
	})
}

// P20.2: each function's answer.

// example is a call, and its answer.
type example struct {
	name string
	args []api.Table
	want any
}

func holdExamples(t *testing.T, l []example) {
	t.Helper()
	for _, c := range l {
		if got := Call(fname.Number(c.name), c.args); got != as(c.want) {
			t.Errorf("%s of %s: %s, want %s", c.name, shown(c.args), shown(got), shown(as(c.want)))
		}
		holdCall(t, fname.Number(c.name), c.args)
	}
}

func TestCallOfANumber(t *testing.T) {
	holdExamples(t, []example{
		{"ABS", in(-3.5), 3.5}, {"ABS", in(3.5), 3.5}, {"ABS", in(nil), 0}, {"ABS", in(true), 1}, {"ABS", in("-2.50"), 2.5}, {"ABS", in("x"), badValue}, {"ABS", in(badRef), badRef}, {"ABS", in(num(least)), num(greatest)}, {"ABS", in(num(greatest)), num(greatest)},
		{"SIGN", in(-0.0001), -1}, {"SIGN", in(0), 0}, {"SIGN", in(num(greatest)), 1}, {"SIGN", in(num(least)), -1}, {"SIGN", in("7"), 1}, {"SIGN", in(""), badValue},
		{"INT", in(-0.5), -1}, {"INT", in(2.9999), 2}, {"INT", in(-3), -3}, {"INT", in(num(least)), badNum}, {"INT", in(num(greatest)), num(9223372036854770000)},
		{"TRUNC", in(-0.5), 0}, {"TRUNC", in(-2.9), -2}, {"TRUNC", in(2.9999), 2}, {"TRUNC", in(num(least)), num(-9223372036854770000)},
		{"EVEN", in(0), 0}, {"EVEN", in(0.0001), 2}, {"EVEN", in(-2.5), -4}, {"EVEN", in(4), 4}, {"EVEN", in(3), 4}, {"EVEN", in(num(greatest)), badNum},
		{"ODD", in(0), 1}, {"ODD", in(1), 1}, {"ODD", in(1.5), 3}, {"ODD", in(-2), -3}, {"ODD", in(num(least)), badNum},
		{"SQRT", in(2), 1.4142}, {"SQRT", in(9), 3}, {"SQRT", in(0), 0}, {"SQRT", in(-0.0001), badNum}, {"SQRT", in(num(greatest)), num(303700049997)},
		{"FACT", in(5), 120}, {"FACT", in(0), 1}, {"FACT", in(nil), 1}, {"FACT", in(-1), badNum}, {"FACT", in(2.5), badNum}, {"FACT", in(17), num(355687428096000 * 10000)}, {"FACT", in(18), badNum}, {"FACT", in(1000), badNum}, {"FACT", in(1001), badNum},
		{"CHAR", in(65), "A"}, {"CHAR", in(65.9999), "A"}, {"CHAR", in(1), "\x01"}, {"CHAR", in(0), badValue}, {"CHAR", in(0.9), badValue}, {"CHAR", in(-1), badValue}, {"CHAR", in(233), "\u00e9"}, {"CHAR", in(55295), "\ud7ff"}, {"CHAR", in(55296), badValue}, {"CHAR", in(57343), badValue}, {"CHAR", in(57344), "\ue000"},
		{"CHAR", in(1114111), "\U0010ffff"}, {"CHAR", in(1114112), badValue}, {"CHAR", in(n(1<<32 + 65)), badValue}, {"CHAR", in(num(greatest)), badValue}, {"CHAR", in(num(least)), badValue}, {"CHAR", in("66"), "B"}, {"CHAR", in("B"), badValue}, {"CHAR", in(badNum), badNum},
		{"VALUE", in("12.50"), 12.5}, {"VALUE", in("-0"), 0}, {"VALUE", in(""), badValue}, {"VALUE", in("1e3"), badValue}, {"VALUE", in(nil), 0}, {"VALUE", in(true), 1}, {"VALUE", in(num(least)), num(least)}, {"VALUE", in(badCycle), badCycle},
	})
}

func TestCallOfTwoNumbers(t *testing.T) {
	holdExamples(t, []example{
		{"CEILING", in(2.1, 0.5), 2.5}, {"CEILING", in(-2.1, 0.5), -2}, {"CEILING", in(6, 3), 6}, {"CEILING", in(1, 0), badNum}, {"CEILING", in(1, -1), badNum}, {"CEILING", in(1, nil), badNum}, {"CEILING", in(num(greatest), 1), badNum}, {"CEILING", in("2.1", true), 3},
		{"FLOOR", in(2.4, 0.5), 2}, {"FLOOR", in(-2.1, 0.5), -2.5}, {"FLOOR", in(7, 0.0003), 6.9999}, {"FLOOR", in(1, 0), badNum}, {"FLOOR", in(num(least), 1), badNum}, {"FLOOR", in(num(greatest), num(greatest)), num(greatest)},
		{"ROUND", in(2.5, 0), 3}, {"ROUND", in(-2.5, 0), -3}, {"ROUND", in(1.2345, 2), 1.23}, {"ROUND", in(1.235, 2), 1.24}, {"ROUND", in(1.2345, 2.99), 1.23}, {"ROUND", in(125, -1), 130}, {"ROUND", in(125, -1.9), 130}, {"ROUND", in(1.2345, 4), 1.2345}, {"ROUND", in(1.2345, 9), 1.2345}, {"ROUND", in(1.2345, num(greatest)), 1.2345},
		{"ROUND", in(1, -14), 0}, {"ROUND", in(1, -14.9999), 0}, {"ROUND", in(1, -15), badNum}, {"ROUND", in(1, num(least)), badNum}, {"ROUND", in(num(greatest), 0), badNum}, {"ROUND", in(num(greatest), -14), num(9000000000000000000)}, {"ROUND", in(1.5, nil), 2}, {"ROUND", in(1.55, true), 1.6},
		{"ROUNDUP", in(2.0001, 0), 3}, {"ROUNDUP", in(-2.0001, 0), -3}, {"ROUNDUP", in(1.231, 2), 1.24}, {"ROUNDUP", in(1, -14), num(1000000000000000000)}, {"ROUNDUP", in(1, -15), badNum}, {"ROUNDUP", in(num(least), -14), badNum},
		{"ROUNDDOWN", in(2.9999, 0), 2}, {"ROUNDDOWN", in(-2.9999, 0), -2}, {"ROUNDDOWN", in(1.239, 2), 1.23}, {"ROUNDDOWN", in(num(greatest), -14), num(9000000000000000000)}, {"ROUNDDOWN", in(129, -1), 120}, {"ROUNDDOWN", in(1, -15), badNum},
		{"MOD", in(7, 3), 1}, {"MOD", in(-7, 3), 2}, {"MOD", in(7, -3), -2}, {"MOD", in(5.5, 2), 1.5}, {"MOD", in(7, 0), badDiv}, {"MOD", in(0, 0), badDiv}, {"MOD", in(7, nil), badDiv}, {"MOD", in(7, false), badDiv}, {"MOD", in(num(greatest), 0.0002), 0.0001}, {"MOD", in(num(least), num(greatest)), 0}, {"MOD", in("x", 0), badValue}, {"MOD", in(1, "x"), badValue},
		{"QUOTIENT", in(7, 3), 2}, {"QUOTIENT", in(-7, 3), -2}, {"QUOTIENT", in(7, 0), badDiv}, {"QUOTIENT", in(nil, nil), badDiv}, {"QUOTIENT", in(1, "0"), badDiv}, {"QUOTIENT", in(num(greatest), 0.5), badNum}, {"QUOTIENT", in(5.5, 0.5), 11}, {"QUOTIENT", in(badRef, 0), badRef}, {"QUOTIENT", in(0, badRef), badRef},
		{"POWER", in(2, 10), 1024}, {"POWER", in(10, -2), 0.01}, {"POWER", in(0, 0), 1}, {"POWER", in(0, -1), badNum}, {"POWER", in(2, 0.5), badNum}, {"POWER", in(2, 50), badNum}, {"POWER", in(1, 1001), badNum},
		{"GCD", in(12, 18), 6}, {"GCD", in(0, 5), 5}, {"GCD", in(0, 0), 0}, {"GCD", in(-12, 18), badNum}, {"GCD", in(12, 1.5), badNum},
		{"LCM", in(12, 18), 36}, {"LCM", in(0, 5), 0}, {"LCM", in(4, -6), badNum}, {"LCM", in(n(1<<40), n(1<<40-1)), badNum},
		{"COMBIN", in(5, 2), 10}, {"COMBIN", in(5, 0), 1}, {"COMBIN", in(5, 5), 1}, {"COMBIN", in(5, 6), badNum}, {"COMBIN", in(5, -1), badNum}, {"COMBIN", in(52, 26), n(495918532948104)}, {"COMBIN", in(53, 26), badNum}, {"COMBIN", in(1000, 1), 1000}, {"COMBIN", in(1001, 1), badNum}, {"COMBIN", in(5.5, 2), badNum},
		{"TEXT", in(12.5, 3), "12.500"}, {"TEXT", in(12.5, 0), "13"}, {"TEXT", in(-12.5, nil), "-13"}, {"TEXT", in(1, 4.9999), "1.0000"}, {"TEXT", in(1, 5), badValue}, {"TEXT", in(1, -0.9999), "1"}, {"TEXT", in(1, -1), badValue}, {"TEXT", in("7", true), "7.0"}, {"TEXT", in(num(greatest), 0), badValue}, {"TEXT", in(num(greatest), 4), "922337203685477.5807"}, {"TEXT", in(1, num(greatest)), badValue}, {"TEXT", in(1, n(1<<32)), badValue}, {"TEXT", in("x", 9), badValue}, {"TEXT", in(1, badAuth), badAuth},
	})
}

func TestCallOfTexts(t *testing.T) {
	holdExamples(t, []example{
		{"LEN", in("caf\u00e9"), 4}, {"LEN", in("a\xff\xa9"), 3}, {"LEN", in(""), 0}, {"LEN", in(nil), 0}, {"LEN", in(-12.5), 5}, {"LEN", in(true), 4}, {"LEN", in(false), 5}, {"LEN", in(long(full)), 256}, {"LEN", in(badNone), badNone},
		{"LOWER", in("AbC\u00c9"), "abc\u00c9"}, {"UPPER", in("AbC\u00e9"), "ABC\u00e9"}, {"PROPER", in("o'NEIL and sons"), "O'Neil And Sons"}, {"TRIM", in("  a   b "), "a b"}, {"REVERSE", in("caf\u00e9"), "\u00e9fac"},
		{"LOWER", in(true), "true"}, {"UPPER", in(nil), ""}, {"PROPER", in(false), "False"}, {"TRIM", in(1.5), "1.5"}, {"REVERSE", in(-12.5), "5.21-"}, {"REVERSE", in("\xa9\xc3"), "\u00e9"}, {"REVERSE", in(badDiv), badDiv}, {"UPPER", in(long(full)), strings.Repeat("A", full)},
		{"CODE", in("A"), 65}, {"CODE", in("\u00e9s"), 233}, {"CODE", in("\xff"), 65533}, {"CODE", in("\U0010ffff"), 1114111}, {"CODE", in("\x00"), 0}, {"CODE", in(""), badValue}, {"CODE", in(nil), badValue}, {"CODE", in(7), 55}, {"CODE", in(true), 84}, {"CODE", in(badRef), badRef},
		{"EXACT", in("a", "a"), true}, {"EXACT", in("a", "A"), false}, {"EXACT", in(1, "1"), true}, {"EXACT", in(1, "1.0"), false}, {"EXACT", in(nil, ""), true}, {"EXACT", in(nil, 0), false}, {"EXACT", in(true, "TRUE"), true}, {"EXACT", in(badDiv, badDiv), badDiv}, {"EXACT", in("a", badRef), badRef},
		{"FIND", in("s", "caf\u00e9s"), 5}, {"FIND", in("", "abc"), 1}, {"FIND", in("", ""), 1}, {"FIND", in(nil, nil), 1}, {"FIND", in("x", "abc"), badValue}, {"FIND", in("abc", "ab"), badValue}, {"FIND", in("b", "abab"), 2}, {"FIND", in("B", "abab"), badValue}, {"FIND", in("\xa9", "\u00e9"), badValue}, {"FIND", in(2, 12.25), 2}, {"FIND", in("x", badRef), badRef}, {"FIND", in(badDiv, badRef), badDiv},
		{"LEFT", in("caf\u00e9s", 4), "caf\u00e9"}, {"LEFT", in("abc", 0), ""}, {"LEFT", in("abc", 2.9), "ab"}, {"LEFT", in("abc", -0.9), ""}, {"LEFT", in("abc", -1), badValue}, {"LEFT", in("abc", num(greatest)), "abc"}, {"LEFT", in("abc", num(least)), badValue}, {"LEFT", in(12.5, true), "1"}, {"LEFT", in("abc", nil), ""}, {"LEFT", in(badDiv, "x"), badDiv}, {"LEFT", in("abc", "x"), badValue},
		{"RIGHT", in("caf\u00e9s", 2), "\u00e9s"}, {"RIGHT", in("abc", 0), ""}, {"RIGHT", in("abc", 4), "abc"}, {"RIGHT", in("abc", -0.9), ""}, {"RIGHT", in("abc", -1), badValue}, {"RIGHT", in("abc", num(least)), badValue}, {"RIGHT", in("abc", num(greatest)), "abc"}, {"RIGHT", in(nil, 1), ""},
		{"REPT", in("ab", 3), "ababab"}, {"REPT", in("ab", 0), ""}, {"REPT", in("ab", -0.5), ""}, {"REPT", in("ab", -1), badValue}, {"REPT", in("ab", 128), strings.Repeat("ab", 128)}, {"REPT", in("ab", 129), badValue}, {"REPT", in("a", 256.9), long(full)}, {"REPT", in("a", 257), badValue}, {"REPT", in("", num(greatest)), ""}, {"REPT", in("a", num(greatest)), badValue}, {"REPT", in(nil, -1), badValue}, {"REPT", in(long(full), 1), long(full)}, {"REPT", in(long(full), 2), badValue},
		{"MID", in("caf\u00e9s", 3, 2), "f\u00e9"}, {"MID", in("abc", 1, 9), "abc"}, {"MID", in("abc", 3, 1), "c"}, {"MID", in("abc", 4, 1), ""}, {"MID", in("abc", 0, 1), badValue}, {"MID", in("abc", 0.9, 1), badValue}, {"MID", in("abc", 1.9, 1.9), "a"}, {"MID", in("abc", 1, 0), ""}, {"MID", in("abc", 1, -0.9), ""}, {"MID", in("abc", 1, -1), badValue}, {"MID", in("abc", -1, 1), badValue},
		{"MID", in("abc", num(greatest), num(greatest)), ""}, {"MID", in("abc", 1, num(greatest)), "abc"}, {"MID", in("abc", 2, num(greatest)), "bc"}, {"MID", in("abc", num(least), 1), badValue}, {"MID", in("abc", 1, num(least)), badValue}, {"MID", in("abc", badDiv, badRef), badDiv}, {"MID", in("abc", "x", badRef), badValue}, {"MID", in("abc", 0, badRef), badRef}, {"MID", in(badNum, badDiv, badRef), badNum}, {"MID", in(12.5, true, 2), "12"},
		{"SUBSTITUTE", in("a-b-c", "-", "+"), "a+b+c"}, {"SUBSTITUTE", in("aaa", "aa", "ba"), "baa"}, {"SUBSTITUTE", in("abc", "", "x"), "abc"}, {"SUBSTITUTE", in("abc", nil, "x"), "abc"}, {"SUBSTITUTE", in("abc", "x", "y"), "abc"}, {"SUBSTITUTE", in("abc", "b", nil), "ac"}, {"SUBSTITUTE", in(12.5, 2, true), "1TRUE.5"},
		{"SUBSTITUTE", in(long(128), "a", "bb"), strings.Repeat("b", full)}, {"SUBSTITUTE", in(long(128)+"c", "a", "bb"), badValue}, {"SUBSTITUTE", in(long(full), "a", ""), ""}, {"SUBSTITUTE", in(long(full), "a", "bb"), badValue}, {"SUBSTITUTE", in(badDiv, badRef, badNum), badDiv}, {"SUBSTITUTE", in("a", badRef, badNum), badRef}, {"SUBSTITUTE", in("a", "b", badNum), badNum},
	})
}

func TestCallOfAValue(t *testing.T) {
	holdExamples(t, []example{
		{"NOT", in(true), false}, {"NOT", in(false), true}, {"NOT", in(nil), true}, {"NOT", in(0), true}, {"NOT", in(-0.0001), false}, {"NOT", in("TRUE"), false}, {"NOT", in("FALSE"), true}, {"NOT", in("true"), badValue}, {"NOT", in(""), badValue}, {"NOT", in("0"), badValue}, {"NOT", in(badAuth), badAuth},
		{"ISBLANK", in(nil), true}, {"ISBLANK", in(""), false}, {"ISBLANK", in(0), false}, {"ISBLANK", in(false), false}, {"ISBLANK", in(badNone), false},
		{"ISERROR", in(nil), false}, {"ISERROR", in("#DIV"), false}, {"ISERROR", in(4), false}, {"ISERROR", in(true), false},
		{"ISLOGICAL", in(nil), false}, {"ISLOGICAL", in("TRUE"), false}, {"ISLOGICAL", in(1), false}, {"ISLOGICAL", in(false), true}, {"ISLOGICAL", in(badDiv), false},
		{"ISNUMBER", in(nil), false}, {"ISNUMBER", in("1"), false}, {"ISNUMBER", in(0), true}, {"ISNUMBER", in(true), false}, {"ISNUMBER", in(badDiv), false},
		{"ISTEXT", in(nil), false}, {"ISTEXT", in(""), true}, {"ISTEXT", in("1"), true}, {"ISTEXT", in(1), false}, {"ISTEXT", in(true), false}, {"ISTEXT", in(badDiv), false},
		{"NA", in(), badNone}, {"NA", nil, badNone}, {"NA", in(nil), badValue},
	})
	for _, bad := range faults() {
		holdExamples(t, []example{{"ISERROR", in(bad), true}, {"ISBLANK", in(bad), false}, {"NOT", in(bad), bad}})
	}
}

func TestCallOfLists(t *testing.T) {
	holdExamples(t, []example{
		{"SUM", in(1, across(2, 3), "4", nil, true), 6}, {"SUM", in("x"), 0}, {"SUM", in(num(greatest), 0.0001), badNum}, {"SUM", in(1, across(2, badRef), badDiv), badRef}, {"SUM", in(down(1, 2), table(2, 2, 3, 4, 5, 6)), 21},
		{"PRODUCT", in(2, across(3, "x"), 4), 24}, {"PRODUCT", in("x"), 0}, {"PRODUCT", in(0.5, 0.0001, 2), 0.0002}, {"PRODUCT", in(num(greatest), 2, 0), badNum}, {"PRODUCT", in(badDiv, badRef), badDiv},
		{"SUMSQ", in(3, 4), 25}, {"SUMSQ", in(nil), 0}, {"SUMSQ", in(num(303700049997)), num(9223372036818029970)}, {"SUMSQ", in(num(303700049998)), badNum},
		{"MIN", in(across(3, 1), 2), 1}, {"MIN", in(nil, "0"), 0}, {"MIN", in(3, true), 3}, {"MIN", in(1, badNone), badNone},
		{"MAX", in(across(-3, -1), -2), -1}, {"MAX", in(nil, "7"), 0}, {"MAX", in(-3, true), -3}, {"MAX", in(badNone, badDiv), badNone},
		{"AVERAGE", in(across(1, 2), 4), 2.3333}, {"AVERAGE", in("x", nil), badDiv}, {"AVERAGE", in(num(greatest), 1), badNum}, {"AVERAGE", in("x", badRef), badRef},
		{"COUNT", in(across(1, "2", nil), badDiv, true, 3), 2}, {"COUNT", in(badDiv), 0}, {"COUNT", in(rising(1, 1000), rising(1000, 1), rising(1, 1000), rising(1, 1000), rising(1, 1000), rising(1, 1000), rising(1, 1000), rising(25, 40)), 8000},
		{"COUNTA", in(across(1, "2", nil), badDiv, true, ""), 5}, {"COUNTA", in(nil), 0}, {"COUNTA", in(badDiv, badRef), 2},
		{"COUNTBLANK", in(across(1, "2", nil), badDiv, true, ""), 2}, {"COUNTBLANK", in(badDiv), 0}, {"COUNTBLANK", in(0, false), 0},
		{"CONCAT", in(across("a", 1.5), nil, true), "a1.5TRUE"}, {"CONCAT", in(nil), ""}, {"CONCAT", in(long(128), down(long(100), long(28))), long(full)}, {"CONCAT", in(long(full), nil, "b"), badValue}, {"CONCAT", in(long(full), "b", badRef), badRef}, {"CONCAT", in("", badDiv), badDiv},
		{"XOR", in(true, across(true, true)), true}, {"XOR", in(true, 1), false}, {"XOR", in(nil), false}, {"XOR", in("TRUE"), true}, {"XOR", in("x", badRef), badValue}, {"XOR", in(badRef, "x"), badRef}, {"XOR", in(true, ""), badValue},
		{"MEDIAN", in(3, across(1, 2)), 2}, {"MEDIAN", in(across(4, 1, 3, 2)), 2.5}, {"MEDIAN", in(7, "x", nil, true), 7}, {"MEDIAN", in("x"), badNum}, {"MEDIAN", in(nil), badNum}, {"MEDIAN", in(num(greatest), 0.0001), badNum}, {"MEDIAN", in(1, badRef, badDiv), badRef}, {"MEDIAN", in(0.0001, 0.0002), 0.0002},
		{"MODE", in(1, across(2, 2), 1), 1}, {"MODE", in(across(1, 2), across(2, 1, 2)), 2}, {"MODE", in(1, 2), badNone}, {"MODE", in("x", "x"), badNone}, {"MODE", in(1, 1, badRef), badRef}, {"MODE", in(1), badNone}, {"MODE", in(nil, nil), badNone}, {"MODE", in(true, 1), badNone}, {"MODE", in(0, nil, 0), 0},
	})
}

func TestCallOfATable(t *testing.T) {
	staff := table(3, 2, "ann", 3, "bob", nil, "cy", 5)
	some := across(3, "x", 1, 2, nil, 3, true)
	holdExamples(t, []example{
		{"COUNTIF", in(staff, ">2"), 2}, {"COUNTIF", in(staff, "*n*"), 1}, {"COUNTIF", in(staff, nil), 1}, {"COUNTIF", in(across(badDiv, 1), 1), 1}, {"COUNTIF", in(staff, badNone), badNone}, {"COUNTIF", in(across(badDiv), badNone), badNone}, {"COUNTIF", in(3, 3), 1}, {"COUNTIF", in(3, across(3, 3)), badValue},
		{"SUMIF", in(staff, ">2"), 8}, {"SUMIF", in(staff, "ann"), 0}, {"SUMIF", in(across(badDiv, 2), 2), 2}, {"SUMIF", in(staff, badNone), badNone}, {"SUMIF", in(across(num(greatest), 1), ">0"), badNum},
		{"AVERAGEIF", in(staff, ">2"), 4}, {"AVERAGEIF", in(staff, "ann"), badDiv}, {"AVERAGEIF", in(across(badDiv, 2), 2), 2}, {"AVERAGEIF", in(across(1), badNone), badNone},
		{"LARGE", in(some, 1), 3}, {"LARGE", in(some, 2), 3}, {"LARGE", in(some, 3.9), 2}, {"LARGE", in(some, 4), 1}, {"LARGE", in(some, 5), badNum}, {"LARGE", in(some, 0), badNum}, {"LARGE", in(some, 0.9), badNum}, {"LARGE", in(some, -1), badNum}, {"LARGE", in(some, num(greatest)), badNum}, {"LARGE", in(some, true), 3}, {"LARGE", in(some, "2"), 3}, {"LARGE", in(some, n(1<<32+1)), badNum},
		{"LARGE", in(across(1, badRef, badDiv), badNone), badRef}, {"LARGE", in(across(1, badRef), "x"), badRef}, {"LARGE", in(some, badNone), badNone}, {"LARGE", in(some, "x"), badValue}, {"LARGE", in("x", 1), badNum},
		{"SMALL", in(some, 1), 1}, {"SMALL", in(some, 2), 2}, {"SMALL", in(some, 4), 3}, {"SMALL", in(some, 5), badNum}, {"SMALL", in(some, nil), badNum}, {"SMALL", in(some, num(least)), badNum}, {"SMALL", in(across(1, badRef, badDiv), badNone), badRef}, {"SMALL", in(some, badNone), badNone}, {"SMALL", in(some, "x"), badValue}, {"SMALL", in(7, 1), 7},
		{"RANK", in(3, some), 1}, {"RANK", in(2, some), 3}, {"RANK", in("1", some), 4}, {"RANK", in(0, some), badNone}, {"RANK", in(nil, some), badNone}, {"RANK", in(true, some), 4}, {"RANK", in(badNone, across(badRef)), badNone}, {"RANK", in("x", across(badRef)), badValue}, {"RANK", in(1, across(1, badRef, badDiv)), badRef}, {"RANK", in(1, "1"), badNone}, {"RANK", in(1, 1), 1},
		{"MATCH", in("bob", staff), 3}, {"MATCH", in(0, staff), 4}, {"MATCH", in(nil, staff), 4}, {"MATCH", in(5, staff), 6}, {"MATCH", in("5", staff), badNone}, {"MATCH", in("", staff), 4}, {"MATCH", in(true, staff), badNone}, {"MATCH", in(badDiv, staff), badDiv}, {"MATCH", in(badDiv, across(badDiv)), badDiv}, {"MATCH", in(1, across(badDiv, 1)), 2}, {"MATCH", in(nil, across(badDiv)), badNone},
		{"VLOOKUP", in("ann", staff, 2), 3}, {"VLOOKUP", in("bob", staff, 2.9), nil}, {"VLOOKUP", in("cy", staff, 1), "cy"}, {"VLOOKUP", in("dan", staff, 2), badNone}, {"VLOOKUP", in("ann", staff, 0), badRef}, {"VLOOKUP", in("ann", staff, 3), badRef}, {"VLOOKUP", in("dan", staff, 3), badRef}, {"VLOOKUP", in("ann", staff, -1), badRef}, {"VLOOKUP", in("ann", staff, num(greatest)), badRef}, {"VLOOKUP", in("ann", staff, num(least)), badRef}, {"VLOOKUP", in(3, staff, 2), badNone},
		{"VLOOKUP", in(badNum, staff, badDiv), badNum}, {"VLOOKUP", in("ann", staff, badDiv), badDiv}, {"VLOOKUP", in("dan", staff, "x"), badValue}, {"VLOOKUP", in(badNum, staff, 9), badNum}, {"VLOOKUP", in("ann", across("ann", badAuth), 2), badAuth}, {"VLOOKUP", in(1, across(badAuth, 1), 1), badNone}, {"VLOOKUP", in("ann", staff, true), "ann"}, {"VLOOKUP", in("ann", staff, n(1<<32+2)), badRef},
		{"HLOOKUP", in(3, staff, 2), nil}, {"HLOOKUP", in("ann", staff, 3), "cy"}, {"HLOOKUP", in("ann", staff, 1), "ann"}, {"HLOOKUP", in("bob", staff, 1), badNone}, {"HLOOKUP", in("ann", staff, 0), badRef}, {"HLOOKUP", in("ann", staff, 4), badRef}, {"HLOOKUP", in("bob", staff, 4), badRef}, {"HLOOKUP", in("ann", staff, 3.9999), "cy"},
		{"HLOOKUP", in(badNum, staff, badDiv), badNum}, {"HLOOKUP", in("ann", staff, badDiv), badDiv}, {"HLOOKUP", in("bob", staff, "x"), badValue}, {"HLOOKUP", in("ann", down("ann", badAuth), 2), badAuth}, {"HLOOKUP", in("ann", staff, num(least)), badRef},
		{"INDEX", in(staff, 1, 2), 3}, {"INDEX", in(staff, 2, 2), nil}, {"INDEX", in(staff, 3, 1), "cy"}, {"INDEX", in(staff, 3), "cy"}, {"INDEX", in(staff, 1), "ann"}, {"INDEX", in(staff, 4), badRef}, {"INDEX", in(staff, 0), badRef}, {"INDEX", in(staff, 0, 1), badRef}, {"INDEX", in(staff, 1, 0), badRef}, {"INDEX", in(staff, 0, 0), badRef}, {"INDEX", in(staff, 1, 3), badRef}, {"INDEX", in(staff, 4, 1), badRef}, {"INDEX", in(staff, 1, nil), badRef}, {"INDEX", in(staff, 3.9, 2.9), 5},
		{"INDEX", in(staff, -1, 1), badRef}, {"INDEX", in(staff, 1, -1), badRef}, {"INDEX", in(staff, num(greatest), num(greatest)), badRef}, {"INDEX", in(staff, num(least)), badRef}, {"INDEX", in(staff, badDiv, badNum), badDiv}, {"INDEX", in(staff, 9, badNum), badNum}, {"INDEX", in(staff, "x", badNum), badValue}, {"INDEX", in(staff, 1, "x"), badValue}, {"INDEX", in(across(badAuth, 1), 1, 1), badAuth}, {"INDEX", in(across(badAuth, 1), 1, 2), 1}, {"INDEX", in(across(badAuth), badDiv), badDiv}, {"INDEX", in(staff, n(1<<32+1)), badRef}, {"INDEX", in(7, 1), 7},
		{"SUMPRODUCT", in(across(1, 2, 3), across(4, 5, 6)), 32}, {"SUMPRODUCT", in(across(1, 2), down(1, 2)), badValue}, {"SUMPRODUCT", in(across(1, "2"), across(3, 4)), 3}, {"SUMPRODUCT", in(2, 3), 6}, {"SUMPRODUCT", in(across(1, badRef), across(badDiv, 1)), badRef}, {"SUMPRODUCT", in(across(1, 1), across(1, badDiv)), badDiv}, {"SUMPRODUCT", in(across(badRef), across(1, 2)), badValue}, {"SUMPRODUCT", in(num(greatest), 2), badNum},
	})
}

// TestCallOfEachKind has arguments of every kind, each with each.
func TestCallOfEachKind(t *testing.T) {
	eachFunction(func(fn, size int) {
		l := manyValues()
		if size == 3 {
			l = fewValues()
		}
		if size < 3 || size == 3 && !words[fname.Name(fn)].listed() {
			eachList(l, size, func(l []api.Value) { holdCall(t, fn, single(l...)) })
		}
	})
}

// TestCallOfFaults has faults in some places, and in the others what is none, but may become one when it is taken: the first of them is the answer.
func TestCallOfFaults(t *testing.T) {
	some := []api.Table{across(badDiv), across(badRef), across("x"), across(1), across(nil), across(1, badNum), across(1, 2, 3), down("x", badAuth, badCycle)}
	var each func(size int, do func([]api.Table))
	each = func(size int, do func([]api.Table)) {
		if size == 0 {
			do(nil)
			return
		}
		each(size-1, func(ahead []api.Table) {
			for _, one := range some {
				do(append(slices.Clone(ahead), one))
			}
		})
	}
	eachFunction(func(fn, size int) {
		if size <= 3 {
			each(size, func(args []api.Table) { holdCall(t, fn, args) })
		}
	})
}

// TestCallOfUnits has each function with numbers about those at which it has another answer.
func TestCallOfUnits(t *testing.T) {
	l := []api.Value{}
	for x := int64(-18); x <= 18; x++ {
		l = append(l, n(x), num(x*10000-1), num(x*10000+1))
	}
	for _, x := range []int64{255, 256, 257, 999, 1000, 1001, 1 << 31, 1 << 32, 1 << 40} {
		for d := int64(-1); d <= 1; d++ {
			l = append(l, n(x+d), n(-x-d), num(x*10000+d))
		}
	}
	l = append(l, num(greatest), num(least))
	few := []api.Value{empty, n(0), num(25000), num(-129999), n(1000), n(-1000), n(1 << 32), num(greatest), num(least), str(""), str("ab"), str("12.5"), str("caf\u00e9s"), str("a\xff\xa9b"), str(long(full)), truth(true), badRef}
	tables := []api.Table{rising(2, 3), across(3, "x", 1, nil, 3), down("a", 2, 2, true)}
	for _, x := range l {
		for fn := 1; fn <= fname.Last; fn++ {
			f := words[fname.Name(fn)]
			if f.fits(1) {
				holdCall(t, fn, single(x))
			}
			for _, v := range few {
				if f.fits(2) {
					holdCall(t, fn, single(v, x))
					holdCall(t, fn, single(x, v))
				}
				if f.fits(3) {
					holdCall(t, fn, single(v, x, n(2)))
					holdCall(t, fn, single(v, n(2), x))
				}
			}
			for _, some := range tables {
				holdCall(t, fn, append([]api.Table{some}, single(x)...))
				holdCall(t, fn, append(single(x), some))
				holdCall(t, fn, append([]api.Table{some}, single(x, n(1))...))
				holdCall(t, fn, append([]api.Table{some}, single(n(2), x)...))
				holdCall(t, fn, append(single(n(1)), some, row([]api.Value{x})))
				holdCall(t, fn, append(single(x), some, row([]api.Value{n(2)})))
			}
		}
	}
}

// TestCallOfPairs has each function of two values, each near where the other's answer changes.
func TestCallOfPairs(t *testing.T) {
	r := rand.New(rand.NewSource(203))
	l := manyValues()
	for range 1000 {
		a, b := num(max(least, int64(r.Uint64())>>uint(r.Intn(64)))), n(int64(r.Intn(1100)))
		for fn := 1; fn <= fname.Last; fn++ {
			holdCall(t, fn, single(a))
			holdCall(t, fn, single(a, b))
			holdCall(t, fn, single(n(int64(r.Intn(1100))), b))
			holdCall(t, fn, single(b, a))
			holdCall(t, fn, single(chance(r, l), a, b))
			holdCall(t, fn, single(chance(r, l), chance(r, l), b))
		}
	}
}

// TestCallOfChanceTables has each function with tables, of which most values are there several times.
func TestCallOfChanceTables(t *testing.T) {
	r := rand.New(rand.NewSource(204))
	l := fewValues()
	for i := range 600 {
		one := func() api.Table {
			if r.Intn(2) == 0 {
				return row([]api.Value{n(int64(r.Intn(7)))})
			}
			return row([]api.Value{chance(r, l)})
		}
		a, b := chanceTable(r, []int{0, 3, 50}[i%3]), chanceTable(r, []int{0, 5}[i%2])
		if r.Intn(2) == 0 {
			b = api.Table{Rows: a.Rows, Cols: a.Cols, V: slices.Concat(a.V[1:], one().V)}
		}
		v, w := one(), one()
		for _, args := range [][]api.Table{{a}, {a, b}, {a, v}, {v, a}, {a, v, w}, {v, a, w}, {v, w, a}, {a, b, v}, {v, a, w, b}, {a, v, b, w, a}, {v, v, w, w, a, b}, {a, a, a, a, a, a, a}, {a, b, v, w, b, a, w, v}, {a, v, a, v, a, v, a, v, a}} {
			for fn := 1; fn <= fname.Last; fn++ {
				holdCall(t, fn, args)
			}
		}
	}
}

// TestCallOfTheOrderOfValues has lists of which the order is to be seen: all values of the first argument stand ahead, row by row.
func TestCallOfTheOrderOfValues(t *testing.T) {
	holdExamples(t, []example{
		{"CONCAT", in(table(2, 2, "a", "b", "c", "d"), "e", down("f", "g"), across("h", "i"), nil, "j"), "abcdefghij"},
		{"SUM", in(num(greatest), across(-1, 1), -1), num(greatest - 10000)}, {"SUM", in(across(num(greatest), 1), -1), badNum}, {"SUM", in(-1, num(greatest), 1), num(greatest)},
		{"PRODUCT", in(0.0001, 0.1, 10000), 0}, {"PRODUCT", in(10000, across(0.0001, 0.1)), 0.1},
		{"MODE", in(down(3, 1), across(1, 3), 2, 2), 3}, {"MODE", in(2, down(3, 1), across(1, 3), 2), 2},
		{"SUM", in(1, down(2, badNone), across(badDiv, badRef)), badNone}, {"MEDIAN", in(1, down(badCycle, badNone), badDiv), badCycle}, {"XOR", in(true, down(nil, "a"), badDiv), badValue},
	})
}

// P20.3.

func TestWhatFollows(t *testing.T) {
	l := manyValues()
	isFault := func(v api.Value) bool { return v.Kind == 4 }
	for _, a := range l {
		for _, b := range l {
			for op := 1; op <= 12; op++ {
				got := Binary(op, a, b)
				if want := firstFault([]api.Value{a, b}); want != empty && got != want && binaryTakes(op, a) == empty {
					t.Errorf("%s and %s by %d: %s", shown(a), shown(b), op, shown(got))
				}
				if isFault(a) && got != a {
					t.Errorf("%s and %s by %d: %s", shown(a), shown(b), op, shown(got))
				}
			}
			forth, back := Binary(2, a, b), Binary(2, b, a)
			if !(isFault(numberByWords(a)) && isFault(numberByWords(b))) && Minus(back) != forth {
				t.Errorf("%s - %s is %s, and the other way round %s", shown(a), shown(b), shown(forth), shown(back))
			}
			if isFault(a) || isFault(b) {
				continue
			}
			for _, pair := range [][2]int{{7, 8}, {9, 12}, {11, 10}} {
				one, other := Binary(pair[0], a, b), Binary(pair[1], a, b)
				if one.Kind != 3 || other.Kind != 3 || one == other {
					t.Errorf("%s and %s by %v: %s and %s", shown(a), shown(b), pair, shown(one), shown(other))
				}
			}
			if Binary(9, a, b) != Binary(11, b, a) || Binary(10, a, b) != Binary(12, b, a) || Binary(7, a, b) != Binary(7, b, a) {
				t.Errorf("%s and %s stand otherwise turned round", shown(a), shown(b))
			}
		}
	}
}

// binaryTakes is the fault that comes of taking the first value of an operator, or what is empty.
func binaryTakes(op int, a api.Value) api.Value {
	if op <= 5 {
		a = numberByWords(a)
	}
	return firstFault([]api.Value{a})
}

// TestNothingIsChanged has tables with spare room behind their values, and arguments with spare room behind them, which stay as they are, too.
func TestNothingIsChanged(t *testing.T) {
	for fn := -1; fn <= fname.Last+1; fn++ {
		for size := range 9 {
			for _, some := range []api.Table{across(3), across("b"), across(3, 1, 2, 3), table(2, 2, "b", 2, "a", 1), across(badRef), table(0, 1)} {
				rooms, kept, args := [][]api.Value{}, [][]api.Value{}, make([]api.Table, 0, size+2)
				for i := range size {
					v := some.V
					if i%2 == 1 {
						v = []api.Value{n(2)}
					}
					room := append(slices.Clone(v), str("spare"), n(9), badCycle, truth(true))
					rooms, kept = append(rooms, room), append(kept, slices.Clone(room))
					args = append(args, api.Table{Rows: 1, Cols: len(v), V: room[:len(v):len(room)]})
				}
				spare := append(args, across("more"), rising(2, 2))
				before := fmt.Sprint(spare)
				Call(fn, args)
				if fmt.Sprint(spare) != before || !slices.EqualFunc(rooms, kept, slices.Equal) {
					t.Errorf("%s of %s has changed it", fname.Name(fn), before)
				}
			}
		}
	}
}

// TestNothingPanics has values and tables that may not be: of such nothing else is promised.
func TestNothingPanics(t *testing.T) {
	wrong, l := notValues(), append(notValues(), fewValues()...)
	for _, a := range l {
		Minus(a)
		for _, b := range wrong {
			for op := -1; op <= 13; op++ {
				Binary(op, a, b)
				Binary(op, b, a)
			}
		}
	}
	tables := append(odd(), row(wrong), row(l), rising(2, 2))
	for fn := -1; fn <= fname.Last+1; fn++ {
		for _, a := range wrong {
			for size := range 9 {
				Call(fn, slices.Repeat(single(a), size))
			}
			for _, b := range l {
				Call(fn, single(a, b))
				Call(fn, single(b, a))
				for _, c := range []api.Value{n(1), str("a"), a, b} {
					Call(fn, single(a, b, c))
					Call(fn, single(b, a, c))
					Call(fn, single(b, c, a))
				}
			}
			for _, some := range tables {
				Call(fn, append([]api.Table{some}, single(a)...))
				Call(fn, append(single(a), some))
				Call(fn, append(single(a), some, row([]api.Value{n(2)})))
				Call(fn, append([]api.Table{some}, single(n(1), a)...))
				Call(fn, []api.Table{some, row(wrong)})
			}
		}
	}
}

// FuzzAll holds all calls against the document's words.
func FuzzAll(f *testing.F) {
	f.Add(1, int64(25000), int64(20000), "abc", "b", uint16(0x1234))
	f.Add(67, greatest, least, "-2.50", "TRUE", uint16(0xffff))
	f.Add(72, int64(-1), int64(40000), "\xff", "\u00e9", uint16(0))
	f.Add(-1, int64(0), int64(-149999), "", "*", uint16(7))
	f.Fuzz(func(t *testing.T, fn int, x, y int64, s, w string, mix uint16) {
		s, w, x, y = s[:min(full, len(s))], w[:min(full, len(w))], max(least, x), max(least, y)
		l := append([]api.Value{num(x), num(y), str(s), str(w), n(2), empty, truth(true)}, faults()...)
		for _, a := range l {
			holdMinus(t, a)
			for _, b := range l {
				for op := 1; op <= 12; op++ {
					holdBinary(t, op, a, b)
				}
				holdBinary(t, fn, a, b)
			}
		}
		a, b, c := l[int(mix)%len(l)], l[int(mix>>4)%len(l)], l[int(mix>>8)%len(l)]
		some := api.Table{Rows: 2, Cols: 2, V: []api.Value{a, num(y), b, c}}
		one, two := single(num(x)), single(num(y))
		for _, fn := range []int{fn, 1 + int(uint(fn)%fname.Last)} {
			for _, args := range [][]api.Table{nil, single(a), single(a, b), single(b, c), single(a, b, c), single(a, num(x)), single(str(s), num(x), num(y)), single(str(s), str(w), a), single(a, b, c, a),
				{some}, {some, some}, append([]api.Table{some}, one...), append(one, some), append([]api.Table{some}, single(num(x), num(y))...), append(single(a), some, two[0]), slices.Repeat([]api.Table{some}, 9)} {
				holdCall(t, fn, args)
			}
		}
	})
}
