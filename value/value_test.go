package value

import (
	"fmt"
	"math"
	"math/big"
	"math/rand"
	"regexp"
	"strings"
	"testing"

	"oculus/api"
)

// The greatest decimal, the least one, and the one number of 64 bits that may not be.
const (
	most  = int64(9223372036854775807)
	least = int64(-9223372036854775807)
	none  = int64(math.MinInt64)
)

// These are the texts of the greatest decimal, and of one ten-thousandth more.
const (
	mostText = "922337203685477.5807"
	moreText = "922337203685477.5808"
)

// The values of each kind, written out.

func number(x int64) api.Value { return api.Value{Kind: 1, Num: x} }
func text(t string) api.Value  { return api.Value{Kind: 2, Text: t} }
func fault(n int64) api.Value  { return api.Value{Kind: 4, Num: n} }

var (
	empty = api.Value{}
	wrong = api.Value{Kind: 3}
	right = api.Value{Kind: 3, Num: 1}
)

// The faults that this layer itself tells.
var (
	badValue = fault(2)
	badNum   = fault(4)
)

// names is the faults as text, from 1 on.
var names = []string{"#DIV", "#VALUE", "#REF", "#NUM", "#NA", "#AUTH", "#CYCLE"}

// mayByWords is the document's word on which values may be.
func mayByWords(v api.Value) bool {
	bare := v.Text == ""
	switch v.Kind {
	case 0:
		return bare && v.Num == 0
	case 1:
		return bare && v.Num != none
	case 2:
		return len(v.Text) <= 256 && v.Num == 0
	case 3:
		return bare && 0 <= v.Num && v.Num <= 1
	case 4:
		return bare && 1 <= v.Num && v.Num <= 7
	}
	return false
}

// read is the form of a text that means a decimal.
var read = regexp.MustCompile(`\A-?[0-9]+(\.[0-9]{1,4})?\z`)

// numberByWords is the document's word on a value as a number.
func numberByWords(v api.Value) api.Value {
	switch v.Kind {
	case 0:
		return number(0)
	case 2:
		if len(v.Text) > 40 || !read.MatchString(v.Text) {
			return badValue
		}
		exact, _ := new(big.Rat).SetString(v.Text)
		exact.Mul(exact, big.NewRat(10000, 1))
		if !exact.Num().IsInt64() || exact.Num().Int64() == none {
			return badValue
		}
		return number(exact.Num().Int64())
	case 3:
		return number(10000 * v.Num)
	}
	return v
}

// textByWords is the document's word on a value as a text.
func textByWords(v api.Value) api.Value {
	switch v.Kind {
	case 0:
		return text("")
	case 1:
		return text(strings.TrimSuffix(strings.TrimRight(big.NewRat(v.Num, 10000).FloatString(4), "0"), "."))
	case 3:
		return text([]string{"FALSE", "TRUE"}[v.Num])
	}
	return v
}

// truthByWords is the document's word on a value as a truth.
func truthByWords(v api.Value) api.Value {
	switch {
	case v.Kind == 0, v == number(0), v == text("FALSE"):
		return wrong
	case v.Kind == 1, v == text("TRUE"):
		return right
	case v.Kind == 2:
		return badValue
	}
	return v
}

// quoteByWords is the document's word on Quote.
func quoteByWords(t string) string {
	b := []byte{'"'}
	for i := range len(t) {
		if t[i] == '"' {
			b = append(b, '"')
		}
		b = append(b, t[i])
	}
	return string(append(b, '"'))
}

// showByWords is the document's word on Show.
func showByWords(v api.Value) string {
	switch v.Kind {
	case 0:
		return ""
	case 2:
		return quoteByWords(v.Text)
	case 4:
		return names[v.Num-1]
	}
	return textByWords(v).Text
}

// compareByWords is the document's word on Compare.
func compareByWords(a, b api.Value) int {
	switch {
	case a.Kind == 4 || b.Kind == 4 || a.Kind == 0 && b.Kind == 0:
		return 0
	case a.Kind == 0:
		return -compareByWords(b, a)
	case b.Kind == 0:
		b = map[int]api.Value{1: number(0), 2: text(""), 3: wrong}[a.Kind]
	}
	switch {
	case a.Kind != b.Kind:
		return stand(a.Kind < b.Kind)
	case a == b:
		return 0
	case a.Kind == 2:
		return stand(aheadByBytes(a.Text, b.Text))
	}
	return stand(a.Num < b.Num)
}

// stand is how two that are unlike stand to one another.
func stand(ahead bool) int {
	if ahead {
		return -1
	}
	return 1
}

// aheadByBytes tells whether a text stands ahead of another one that is unlike it.
func aheadByBytes(a, b string) bool {
	for i := range len(a) {
		if i == len(b) || a[i] != b[i] {
			return i < len(b) && a[i] < b[i]
		}
	}
	return true
}

// hold holds all calls of one value against the document's words.
func hold(t *testing.T, v api.Value) {
	t.Helper()
	may := mayByWords(v)
	if got := May(v); got != may {
		t.Errorf("May(%v): %v", v, got)
	}
	if !may {
		// Of such nothing else is promised, but that no call panics.
		AsNumber(v)
		AsText(v)
		AsTruth(v)
		Show(v)
		return
	}
	for _, c := range []struct {
		name       string
		call, word func(api.Value) api.Value
		kind       int
	}{{"AsNumber", AsNumber, numberByWords, 1}, {"AsText", AsText, textByWords, 2}, {"AsTruth", AsTruth, truthByWords, 3}} {
		got, want := c.call(v), c.word(v)
		if got != want {
			t.Errorf("%s(%v): %v, not %v", c.name, v, got, want)
		}
		if !May(got) || got.Kind != c.kind && got.Kind != 4 {
			t.Errorf("%s(%v): %v is none such, and no fault", c.name, v, got)
		}
	}
	if got, want := Show(v), showByWords(v); got != want {
		t.Errorf("Show(%v): %.80q, not %.80q", v, got, want)
	}
}

// holdPair holds Compare against the document's words, both ways.
func holdPair(t *testing.T, a, b api.Value) {
	t.Helper()
	ahead, behind := Compare(a, b), Compare(b, a)
	if a.Kind == 4 || b.Kind == 4 || mayByWords(a) && mayByWords(b) {
		if want := compareByWords(a, b); ahead != want || behind != -want {
			t.Errorf("Compare of %v and %v: %d, and %d the other way; not %d", a, b, ahead, behind, want)
		}
	}
}

// manyNumbers is numbers about 0, about each power of 10 and of 2, and about both ends of the room.
func manyNumbers() []int64 {
	l := []int64{none, none + 1, none + 2, most, most - 1}
	about := func(x int64) {
		for i := int64(-1); i <= 1; i++ {
			l = append(l, x+i, -x-i)
		}
	}
	for power := int64(1); power <= most/10; power *= 10 {
		about(power)
	}
	for power := range 63 {
		about(1 << power)
	}
	for _, x := range []int64{0, 5, 15, 5000, 12345, 15000, 125000, 9223372036854770000} {
		about(x)
	}
	return l
}

// meaning is texts that mean a number, each with its ten-thousandths: most of them are another text than the number's own.
func meaning() map[string]int64 {
	return map[string]int64{
		"0": 0, "7": 70000, "-7": -70000, "1": 10000, "12.5": 125000, "-12.5": -125000, "0.0001": 1, "-0.0001": -1, mostText: most, "-" + mostText: least,
		"-0": 0, "00": 0, "-00": 0, "0.0": 0, "-0.0000": 0, "007": 70000, "-007": -70000, "0012.50": 125000, "1.0": 10000, "1.5000": 15000, "-01.50": -15000, "00.0001": 1,
		strings.Repeat("0", 40): 0, strings.Repeat("0", 39) + "1": 10000, "-" + strings.Repeat("0", 38) + "1": -10000, strings.Repeat("0", 20) + mostText: most, "-" + strings.Repeat("0", 19) + mostText: least,
	}
}

// meaningless is texts that mean no number: nor do most of them mean a truth.
func meaningless() []string {
	return []string{
		"", " ", "-", "--1", "+1", "1+", "1-", " 1", "1 ", "1 2", "\t1", "1\n", "\x001", "1\x00", ".", ".5", "5.", "-.5", "1..2", "1.2.3", "1.23456", "0.00001", "1.00000", "1,5", "1e2", "0x1", "Inf", "NaN", "a", "1a", "١", "1\xff", "\xff",
		moreText, "-" + moreText, "922337203685478", "1844674407370955.1617", "18446744073709551617", strings.Repeat("9", 40), strings.Repeat("0", 41), "-" + strings.Repeat("0", 40), strings.Repeat("0", 256), strings.Repeat("a", 256),
		"TRUE", "FALSE", "true", "false", "True", "False", "TRUe", "tRUE", "FALSe", " TRUE", "TRUE ", " FALSE", "FALSE ", "TRUE\n", "\tTRUE", "TRUE\x00", "TRU", "TRUEE", "FALS", "FALSEE", "TRUEFALSE", "T", "F", "YES", "NO", "\"TRUE\"", "=TRUE", "TRUE\xff", "ТRUE",
		"#DIV", "#VALUE", "#NUM", "A1", "?",
	}
}

// otherTexts is texts of which some begin others, with marks, of bytes beyond ASCII, and about the longest one.
func otherTexts() []string {
	l := []string{"A", "AA", "AB", "Aa", "B", "a", "ab", "abc", "b", "Z", "z", "\x00", "\x00\x00", "\x01", "\x7f", "\x80", "\xc3", "\xc3\xa9", "é", "z\xff", "\xfe", "\xff", "\xff\x00", "\xff\xff", "日本", "10", "9", "-1", "00", "!", "\"", "\"\"", "\"\"\"", "a\"", "\"a", "a\"b", "\"a\"b\"", "\xff\"\x80"}
	for _, n := range []int{255, 256, 257, 258, 512, 1000} {
		l = append(l, strings.Repeat("x", n), strings.Repeat("\"", n), strings.Repeat("\xff", n), strings.Repeat("é", n/2), strings.Repeat("1", n))
	}
	return l
}

// manyValues is values of each kind, and such as may not be.
func manyValues() []api.Value {
	l := []api.Value{}
	for _, kind := range []int{math.MinInt, -2, -1, 0, 1, 2, 3, 4, 5, 6, 257, 1 << 32, math.MaxInt} {
		for _, x := range []int64{none, least, -1 << 32, -10000, -2, -1, 0, 1, 2, 3, 4, 5, 6, 7, 8, 9, 256, 257, 10000, 1 << 32, 1<<32 + 1, most} {
			for _, w := range []string{"", "a", "1", "TRUE", "#DIV", strings.Repeat("b", 255), strings.Repeat("b", 256), strings.Repeat("b", 257)} {
				l = append(l, api.Value{Kind: kind, Num: x, Text: w})
			}
		}
	}
	for _, x := range manyNumbers() {
		l = append(l, number(x))
	}
	for w := range meaning() {
		l = append(l, text(w))
	}
	for _, w := range append(meaningless(), otherTexts()...) {
		l = append(l, text(w))
	}
	return l
}

// P12.1

func TestMay(t *testing.T) {
	for _, v := range []api.Value{
		empty, wrong, right,
		number(0), number(1), number(-1), number(10000), number(most), number(least),
		text(""), text("a"), text("\xff"), text("\"\n"), text(strings.Repeat("a", 255)), text(strings.Repeat("a", 256)), text(strings.Repeat("é", 128)),
		fault(1), fault(2), fault(3), fault(4), fault(5), fault(6), fault(7),
	} {
		if !May(v) {
			t.Errorf("May(%v): false", v)
		}
	}
}

func TestMayNot(t *testing.T) {
	long := strings.Repeat("a", 257)
	for _, v := range []api.Value{
		{Num: 1}, {Num: -1}, {Num: none}, {Text: "a"}, {Text: "\x00"}, {Num: 1, Text: "a"},
		{Kind: 1, Num: none}, {Kind: 1, Text: "a"}, {Kind: 1, Num: 10000, Text: "1"}, {Kind: 1, Text: "0"}, {Kind: 1, Num: none, Text: "a"},
		{Kind: 2, Num: 1}, {Kind: 2, Num: -1}, {Kind: 2, Num: none}, {Kind: 2, Num: 1, Text: "a"}, {Kind: 2, Text: long}, {Kind: 2, Text: strings.Repeat("é", 128) + "a"}, {Kind: 2, Text: strings.Repeat("a", 512)},
		{Kind: 3, Num: 2}, {Kind: 3, Num: -1}, {Kind: 3, Num: 10000}, {Kind: 3, Num: none}, {Kind: 3, Num: most}, {Kind: 3, Text: "FALSE"}, {Kind: 3, Num: 1, Text: "TRUE"}, {Kind: 3, Num: 1 << 32}, {Kind: 3, Num: 1<<32 + 1}, {Kind: 3, Num: 257},
		{Kind: 4}, {Kind: 4, Num: 8}, {Kind: 4, Num: -1}, {Kind: 4, Num: -7}, {Kind: 4, Num: none}, {Kind: 4, Num: none + 1}, {Kind: 4, Num: most}, {Kind: 4, Num: 1, Text: "#DIV"}, {Kind: 4, Num: 7, Text: "a"}, {Kind: 4, Text: "#DIV"}, {Kind: 4, Num: 1<<32 + 1}, {Kind: 4, Num: 257},
		{Kind: -1}, {Kind: 5}, {Kind: 6}, {Kind: -4}, {Kind: math.MinInt}, {Kind: math.MaxInt}, {Kind: 256}, {Kind: 257}, {Kind: 1 << 32}, {Kind: 1<<32 + 1}, {Kind: -1, Num: 1}, {Kind: 5, Num: 1}, {Kind: 5, Text: "a"}, {Kind: -1, Text: "a"},
	} {
		if May(v) {
			t.Errorf("May(%v): true", v)
		}
	}
}

func TestMayByItsWords(t *testing.T) {
	for _, v := range manyValues() {
		if got, want := May(v), mayByWords(v); got != want {
			t.Errorf("May(%v): %v, not %v", v, got, want)
		}
	}
}

func TestNum(t *testing.T) {
	for _, x := range manyNumbers() {
		want := number(x)
		if x == none {
			want = badNum
		}
		if got := Num(x); got != want {
			t.Errorf("Num(%d): %v, not %v", x, got, want)
		}
	}
}

func TestStr(t *testing.T) {
	for _, w := range append(meaningless(), otherTexts()...) {
		want := text(w)
		if len(w) > 256 {
			want = badValue
		}
		if got := Str(w); got != want {
			t.Errorf("Str(%.80q), of %d bytes: %v", w, len(w), got)
		}
	}
	for n := range 600 {
		w := strings.Repeat("é", n)[:n]
		if got := Str(w); n <= 256 && got != text(w) || n > 256 && got != badValue {
			t.Errorf("Str of %d bytes: %v", n, got)
		}
	}
}

func TestBool(t *testing.T) {
	if got := Bool(true); got != right {
		t.Errorf("Bool(true): %v", got)
	}
	if got := Bool(false); got != wrong {
		t.Errorf("Bool(false): %v", got)
	}
}

// manyCodes is numbers about those of faults, and such that have a fault's number in their low bits.
func manyCodes() []int {
	l := []int{math.MinInt, math.MinInt + 8, math.MaxInt, math.MaxInt - 7, 1 << 31, -1 << 31, 1 << 32, 100, 10000, 60000, 70000}
	for code := -20; code <= 20; code++ {
		l = append(l, code)
	}
	for code := range 9 {
		for _, bit := range []int{3, 4, 7, 8, 15, 16, 31, 32, 33, 62} {
			l = append(l, code+1<<bit, code-1<<bit)
		}
		l = append(l, code+math.MinInt)
	}
	return l
}

func TestBad(t *testing.T) {
	for _, code := range manyCodes() {
		want := badValue
		if 1 <= code && code <= 7 {
			want = fault(int64(code))
		}
		if got := Bad(code); got != want {
			t.Errorf("Bad(%d): %v, not %v", code, got, want)
		}
	}
}

func TestGot(t *testing.T) {
	for _, x := range manyNumbers() {
		want := number(x)
		if x == none {
			want = badNum
		}
		if got := Got(x, true); got != want {
			t.Errorf("Got(%d, true): %v, not %v", x, got, want)
		}
		if got := Got(x, false); got != badNum {
			t.Errorf("Got(%d, false): %v", x, got)
		}
	}
}

// P12.2

// asked is a value, and what it should be as a number, a text, a truth.
type asked struct {
	v, number, text, truth api.Value
}

func TestAsEach(t *testing.T) {
	l := []asked{
		{empty, number(0), text(""), wrong},
		{right, number(10000), text("TRUE"), right},
		{wrong, number(0), text("FALSE"), wrong},
		{number(0), number(0), text("0"), wrong},
		{number(1), number(1), text("0.0001"), right},
		{number(-1), number(-1), text("-0.0001"), right},
		{number(10000), number(10000), text("1"), right},
		{number(-10000), number(-10000), text("-1"), right},
		{number(-125000), number(-125000), text("-12.5"), right},
		{number(most), number(most), text(mostText), right},
		{number(least), number(least), text("-" + mostText), right},
		{text(""), badValue, text(""), badValue},
		{text("TRUE"), badValue, text("TRUE"), right},
		{text("FALSE"), badValue, text("FALSE"), wrong},
	}
	for code := int64(1); code <= 7; code++ {
		l = append(l, asked{fault(code), fault(code), fault(code), fault(code)})
	}
	for w, x := range meaning() {
		l = append(l, asked{text(w), number(x), text(w), badValue})
	}
	for _, w := range meaningless() {
		if w != "TRUE" && w != "FALSE" {
			l = append(l, asked{text(w), badValue, text(w), badValue})
		}
	}
	for _, x := range l {
		if got := AsNumber(x.v); got != x.number {
			t.Errorf("AsNumber(%v): %v, not %v", x.v, got, x.number)
		}
		if got := AsText(x.v); got != x.text {
			t.Errorf("AsText(%v): %v, not %v", x.v, got, x.text)
		}
		if got := AsTruth(x.v); got != x.truth {
			t.Errorf("AsTruth(%v): %v, not %v", x.v, got, x.truth)
		}
	}
}

func TestByItsWords(t *testing.T) {
	for _, v := range manyValues() {
		hold(t, v)
	}
	chance := rand.New(rand.NewSource(12))
	for range 20000 {
		x := int64(chance.Uint64()) >> chance.Intn(64)
		hold(t, number(x))
		w := textByWords(number(x)).Text
		hold(t, text(w))
		hold(t, text("0"+w))
		hold(t, text(w+"0"))
		hold(t, text(strings.Replace(w, ".", "", 1)))
	}
}

// P12.3

// inOrder is values as they stand, the first ones ahead.
func inOrder() []api.Value {
	l := []api.Value{}
	for _, x := range []int64{least, least + 1, -1 << 53, -100000, -90000, -10001, -10000, -9999, -2, -1, 0, 1, 2, 9999, 10000, 10001, 90000, 100000, 1 << 53, 1<<53 + 1, most - 1, most} {
		l = append(l, number(x))
	}
	for _, w := range []string{"", "\x00", "\x00\x00", "\x01", " ", " TRUE", "\"", "\"\"", "#DIV", "-1", "-2", "0", "0.5", "00", "1", "10", "2", "9", "A", "AA", "AB", "Aa", "B", "FALSE", "TRUE", "Z", "a", "aa", "ab", "abc", "abd", "b", "z", "z\xff", "{", "\x7f", "\x80", "\xc3", "\xc3\xa9", "\xc3\xaa", "\xe6\x97\xa5", "\xfe\xff", "\xff", "\xff\x00", "\xff\xfe", "\xff\xff", strings.Repeat("\xff", 255), strings.Repeat("\xff", 256)} {
		l = append(l, text(w))
	}
	return append(l, wrong, right)
}

func TestCompare(t *testing.T) {
	l := inOrder()
	for i, a := range l {
		for j, b := range l {
			want := 0
			if i != j {
				want = stand(i < j)
			}
			if got := Compare(a, b); got != want {
				t.Errorf("Compare(%v, %v): %d, not %d", a, b, got, want)
			}
		}
	}
}

func TestCompareOfEmpty(t *testing.T) {
	for _, x := range []struct {
		v    api.Value
		want int
	}{
		{empty, 0},
		{number(0), 0}, {number(1), -1}, {number(-1), 1}, {number(10000), -1}, {number(-10000), 1}, {number(most), -1}, {number(least), 1},
		{text(""), 0}, {text("a"), -1}, {text("0"), -1}, {text("-1"), -1}, {text("FALSE"), -1}, {text("\x00"), -1}, {text("\xff"), -1},
		{wrong, 0}, {right, -1},
	} {
		if got := Compare(empty, x.v); got != x.want {
			t.Errorf("Compare of nothing and %v: %d, not %d", x.v, got, x.want)
		}
		if got := Compare(x.v, empty); got != -x.want {
			t.Errorf("Compare of %v and nothing: %d, not %d", x.v, got, -x.want)
		}
	}
}

// TestCompareOfFaults has each fault beside whatever there is, also beside values that may not be.
func TestCompareOfFaults(t *testing.T) {
	l := append(manyValues(), inOrder()...)
	for code := int64(1); code <= 7; code++ {
		for _, v := range l {
			if got := Compare(fault(code), v); got != 0 {
				t.Errorf("Compare of the fault %d and %v: %d", code, v, got)
			}
			if got := Compare(v, fault(code)); got != 0 {
				t.Errorf("Compare of %v and the fault %d: %d", v, code, got)
			}
		}
	}
}

func TestCompareByItsWords(t *testing.T) {
	l := manyValues()
	for _, a := range l {
		for _, b := range l {
			if a.Kind >= 0 && a.Kind <= 4 && (mayByWords(a) || mayByWords(b)) {
				holdPair(t, a, b)
			}
		}
	}
}

// P12.4

func TestQuote(t *testing.T) {
	for _, x := range []struct{ t, want string }{
		{``, `""`}, {`a`, `"a"`}, {`a b`, `"a b"`}, {` `, `" "`}, {`'`, `"'"`}, {`\`, `"\"`}, {"\n", "\"\n\""}, {"\x00", "\"\x00\""}, {`TRUE`, `"TRUE"`},
		{`"`, `""""`}, {`""`, `""""""`}, {`"""`, `""""""""`}, {`"a`, `"""a"`}, {`a"`, `"a"""`}, {`a"b`, `"a""b"`}, {`"a"`, `"""a"""`}, {`a""b`, `"a""""b"`}, {`a"b"c`, `"a""b""c"`}, {`\"`, `"\"""`},
		{"é", "\"é\""}, {"\xff", "\"\xff\""}, {"\xc3\"\xa9", "\"\xc3\"\"\xa9\""}, {"\"\xff\"", "\"\"\"\xff\"\"\""}, {"“”", "\"“”\""}, {"\x80\xfe\"", "\"\x80\xfe\"\"\""},
	} {
		if got := Quote(x.t); got != x.want {
			t.Errorf("Quote(%q): %q, not %q", x.t, got, x.want)
		}
	}
	for _, w := range append(meaningless(), otherTexts()...) {
		if got, want := Quote(w), quoteByWords(w); got != want {
			t.Errorf("Quote(%.80q): %.80q, not %.80q", w, got, want)
		}
	}
}

func TestQuoteOfEachByte(t *testing.T) {
	for a := range 256 {
		for b := range 256 {
			w := string([]byte{byte(a), byte(b)})
			if got, want := Quote(w), quoteByWords(w); got != want {
				t.Errorf("Quote(%q): %q, not %q", w, got, want)
			}
		}
	}
}

func TestFaultText(t *testing.T) {
	for _, code := range manyCodes() {
		want := ""
		if 1 <= code && code <= 7 {
			want = names[code-1]
		}
		if got := FaultText(code); got != want {
			t.Errorf("FaultText(%d): %q, not %q", code, got, want)
		}
	}
}

func TestShow(t *testing.T) {
	for _, x := range []struct {
		v    api.Value
		want string
	}{
		{empty, ""}, {right, "TRUE"}, {wrong, "FALSE"},
		{number(0), "0"}, {number(70000), "7"}, {number(-125000), "-12.5"}, {number(1), "0.0001"}, {number(-1), "-0.0001"}, {number(most), mostText}, {number(least), "-" + mostText},
		{text(""), `""`}, {text("a"), `"a"`}, {text(`"`), `""""`}, {text(`say "no"`), `"say ""no"""`}, {text("7"), `"7"`}, {text("TRUE"), `"TRUE"`}, {text("#DIV"), `"#DIV"`}, {text("\xff"), "\"\xff\""},
		{text(strings.Repeat("a", 256)), `"` + strings.Repeat("a", 256) + `"`}, {text(strings.Repeat(`"`, 256)), strings.Repeat(`"`, 514)},
		{fault(1), "#DIV"}, {fault(2), "#VALUE"}, {fault(3), "#REF"}, {fault(4), "#NUM"}, {fault(5), "#NA"}, {fault(6), "#AUTH"}, {fault(7), "#CYCLE"},
	} {
		if got := Show(x.v); got != x.want {
			t.Errorf("Show(%v): %.80q, not %.80q", x.v, got, x.want)
		}
	}
}

// P12.5

func TestWhatIsMadeMayBe(t *testing.T) {
	l := []api.Value{Bool(true), Bool(false)}
	for _, x := range manyNumbers() {
		l = append(l, Num(x), Got(x, true), Got(x, false))
	}
	for _, w := range append(meaningless(), otherTexts()...) {
		l = append(l, Str(w))
	}
	for _, code := range manyCodes() {
		l = append(l, Bad(code))
	}
	for _, v := range l {
		if !May(v) || !mayByWords(v) {
			t.Errorf("%v is made, and may not be", v)
		}
		hold(t, v)
	}
}

func TestAlikeJustIfOne(t *testing.T) {
	for _, l := range [][]api.Value{inOrder(), manyValues()} {
		for _, a := range l {
			if !mayByWords(a) || a.Kind == 0 || a.Kind == 4 {
				continue
			}
			for _, b := range l {
				if !mayByWords(b) || b.Kind == 0 || b.Kind == 4 {
					continue
				}
				if got := Compare(a, b); (got == 0) != (a == b) {
					t.Errorf("Compare(%v, %v): %d", a, b, got)
				}
			}
		}
	}
}

// TestNothingPanics has pairs of any values, also of such as may not be.
func TestNothingPanics(t *testing.T) {
	l := manyValues()
	defer func() {
		if r := recover(); r != nil {
			t.Error(fmt.Sprint(r))
		}
	}()
	for i, a := range l {
		hold(t, a)
		for j := i % 13; j < len(l); j += 13 {
			if got := Compare(a, l[j]); got < -1 || got > 1 {
				t.Errorf("Compare(%v, %v): %d", a, l[j], got)
			}
		}
	}
}

// FuzzAll holds all calls against the document's words.
func FuzzAll(f *testing.F) {
	f.Add(1, most, "", 2, int64(0), mostText)
	f.Add(3, int64(1), "", 2, int64(0), "TRUE")
	f.Add(4, int64(7), "", 0, int64(0), "\"")
	f.Fuzz(func(t *testing.T, k int, x int64, w string, l int, y int64, u string) {
		for _, kind := range []int{k, l, 0, 1, 2, 3, 4} {
			a, b := api.Value{Kind: kind, Num: x, Text: w}, api.Value{Kind: l, Num: y, Text: u}
			for _, v := range []api.Value{a, number(x), text(w)} {
				hold(t, v)
				for _, v2 := range []api.Value{b, empty, number(y), text(u), wrong, right, badNum} {
					hold(t, v2)
					holdPair(t, v, v2)
				}
			}
		}
		if got, want := Quote(w), quoteByWords(w); got != want {
			t.Errorf("Quote(%q): %q, not %q", w, got, want)
		}
	})
}
