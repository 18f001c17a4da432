package crit

import (
	"fmt"
	"math"
	"math/big"
	"math/rand"
	"regexp"
	"slices"
	"strings"
	"testing"

	"oculus/api"
)

// The greatest decimal, the least one, and the one number of 64 bits that may not be.
const (
	most  = int64(9223372036854775807)
	least = int64(-9223372036854775807)
	none  = int64(math.MinInt64)
)

// These are the texts of the greatest decimal, and of one ten-thousandth more.
const (
	mostText = "922337203685477.5807"
	moreText = "922337203685477.5808"
)

// The operators, by the document's numbers.
const (
	eq = 7
	ne = 8
	lt = 9
	le = 10
	gt = 11
	ge = 12
)

// ops is all operators.
var ops = []int{eq, ne, lt, le, gt, ge}

// signText is each operator as text.
var signText = map[int]string{eq: "=", ne: "<>", lt: "<", le: "<=", gt: ">", ge: ">="}

// The values of each kind, written out.

func number(x int64) api.Value { return api.Value{Kind: 1, Num: x} }
func str(t string) api.Value   { return api.Value{Kind: 2, Text: t} }
func fault(n int64) api.Value  { return api.Value{Kind: 4, Num: n} }

var (
	empty = api.Value{}
	wrong = api.Value{Kind: 3}
	right = api.Value{Kind: 3, Num: 1}
)

// faults is all faults.
func faults() []api.Value {
	l := []api.Value{}
	for n := range int64(7) {
		l = append(l, fault(n+1))
	}
	return l
}

// Next come the document's words on each call.

// read is the form of a text that means a decimal.
var read = regexp.MustCompile(`\A-?[0-9]+(\.[0-9]{1,4})?\z`)

// numberByWords is the decimal that a text means; false: it means none.
func numberByWords(t string) (int64, bool) {
	if len(t) > 40 || !read.MatchString(t) {
		return 0, false
	}
	exact, _ := new(big.Rat).SetString(t)
	exact.Mul(exact, big.NewRat(10000, 1))
	if !exact.Num().IsInt64() || exact.Num().Int64() == none {
		return 0, false
	}
	return exact.Num().Int64(), true
}

// meantByWords is the document's word on what stands behind an operator.
func meantByWords(t string) api.Value {
	x, ok := numberByWords(t)
	switch {
	case ok:
		return number(x)
	case t == "TRUE":
		return right
	case t == "FALSE":
		return wrong
	}
	return str(t)
}

// opByWords is the operator with which a text begins, and how many bytes it has.
func opByWords(t string) (int, int) {
	head := t[:min(2, len(t))]
	switch {
	case head == "<>":
		return ne, 2
	case head == "<=":
		return le, 2
	case head == ">=":
		return ge, 2
	case head == "":
		return eq, 0
	}
	switch head[0] {
	case '<':
		return lt, 1
	case '>':
		return gt, 1
	case '=':
		return eq, 1
	}
	return eq, 0
}

// ofByWords is the document's word on Of.
func ofByWords(v api.Value) (Crit, bool) {
	switch v.Kind {
	case 0:
		return Crit{eq, str("")}, true
	case 2:
		op, size := opByWords(v.Text)
		return Crit{op, meantByWords(v.Text[size:])}, true
	case 4:
		return Crit{}, false
	}
	return Crit{eq, v}, true
}

// likeByWords is the document's word on Like: by which beginnings of the text the pattern's bytes so far fit.
func likeByWords(pattern, t string) bool {
	fit := make([]bool, len(t)+1)
	fit[0] = true
	for _, p := range []byte(pattern) {
		next, some := make([]bool, len(t)+1), false
		for n := range fit {
			some = some || fit[n]
			switch {
			case p == '*':
				next[n] = some
			case n > 0:
				next[n] = fit[n-1] && (p == '?' || p == t[n-1])
			}
		}
		fit = next
	}
	return fit[len(t)]
}

// standByWords is how two values of one kind that are no faults stand: less, alike or greater.
func standByWords(a, b api.Value) int {
	switch {
	case a == b:
		return 0
	case a.Num < b.Num || a.Kind == 2 && slices.Compare([]byte(a.Text), []byte(b.Text)) < 0:
		return -1
	}
	return 1
}

// hitsByWords is the document's word on Hits.
func hitsByWords(c Crit, v api.Value) bool {
	if v == empty {
		v = str("")
	}
	if v.Kind == 4 {
		return false
	}
	if v.Kind != c.V.Kind {
		return c.Op == ne
	}
	if v.Kind == 2 && (c.Op == eq || c.Op == ne) {
		return likeByWords(c.V.Text, v.Text) == (c.Op == eq)
	}
	stand := standByWords(v, c.V)
	return map[int]bool{eq: stand == 0, ne: stand != 0, lt: stand == -1, le: stand != 1, gt: stand == 1, ge: stand != -1}[c.Op]
}

// shown is a value as a test tells it, cut off if it is long.
func shown(v api.Value) string { return fmt.Sprintf("%d %d %.60q", v.Kind, v.Num, v.Text) }

// shownCrit is what is looked for as a test tells it.
func shownCrit(c Crit) string { return fmt.Sprintf("%d of %s", c.Op, shown(c.V)) }

// holdOf holds Of against the document's words.
func holdOf(t *testing.T, v api.Value) {
	t.Helper()
	got, ok := Of(v)
	if want, is := ofByWords(v); got != want || ok != is {
		t.Errorf("Of(%s): %s, %v, not %s, %v", shown(v), shownCrit(got), ok, shownCrit(want), is)
	}
}

// holdLike holds Like against the document's words.
func holdLike(t *testing.T, pattern, w string) {
	t.Helper()
	if got, want := Like(pattern, w), likeByWords(pattern, w); got != want {
		t.Errorf("Like(%.80q, %.80q): %v", pattern, w, got)
	}
}

// holdHits holds Hits against the document's words.
func holdHits(t *testing.T, c Crit, v api.Value) {
	t.Helper()
	if got, want := Hits(c, v), hitsByWords(c, v); got != want {
		t.Errorf("Hits of %s, of %s: %v", shownCrit(c), shown(v), got)
	}
}

// eachText has something done with each text of up to so many of some bytes.
func eachText(of string, size int, do func(w string)) {
	var grow func(w string)
	grow = func(w string) {
		do(w)
		if len(w) == size {
			return
		}
		for i := range len(of) {
			grow(w + of[i:i+1])
		}
	}
	grow("")
}

// chanceText is a text of up to so many of some bytes.
func chanceText(chance *rand.Rand, of string, size int) string {
	b := make([]byte, chance.Intn(size+1))
	for i := range b {
		b[i] = of[chance.Intn(len(of))]
	}
	return string(b)
}

// means is texts that mean a number or a truth, each with that.
func means() map[string]api.Value {
	return map[string]api.Value{
		"0": number(0), "7": number(70000), "-7": number(-70000), "12.5": number(125000), "-0.0001": number(-1), "0.0001": number(1), mostText: number(most), "-" + mostText: number(least),
		"-0": number(0), "00": number(0), "-0.0": number(0), "007": number(70000), "-007": number(-70000), "1.0": number(10000), "1.50": number(15000), "0012.5000": number(125000), "-01.5": number(-15000),
		strings.Repeat("0", 40): number(0), strings.Repeat("0", 39) + "1": number(10000), strings.Repeat("0", 20) + mostText: number(most),
		"TRUE": right, "FALSE": wrong,
	}
}

// meansNothing is texts that mean neither a number nor a truth, though some are nearly such; none begins with an operator.
func meansNothing() []string {
	return []string{
		"", " ", "-", "--1", "+1", "1-", " 1", "1 ", "1\n", "\x001", "1\x00", ".", ".5", "5.", "-.5", "1..2", "1.2.3", "1.23456", "1.00000", "1,5", "1e2", "0x1", "Inf", "NaN", "١", "1\xff", "1*", "*1", "?", "1?", "*", "**", "1 2", "(1)", "\"1\"",
		moreText, "-" + moreText, "922337203685478", strings.Repeat("9", 40), strings.Repeat("0", 41), "-" + strings.Repeat("0", 40), strings.Repeat("0", 200),
		"true", "false", "True", "False", "TRUe", "tRUE", " TRUE", "TRUE ", "FALSE ", " FALSE", "TRU", "TRUEE", "FALS", "TRUE\n", "TRUE\x00", "TRUE*", "TRUE=", "T", "TRUEFALSE", "\"TRUE\"", "ТRUE",
		"a", "A", "ab", "a=b", "a<b", "a>", "!=5", "!", "#DIV", "#NA", "A1", "é", "\xff", "\xc3", "\x00", "≤5", "≠5", " =5", " <5", " <>5", "\t>5", "\n=",
	}
}

// P17.1

// of is what Of should answer of a text.
type of struct {
	t  string
	op int
	v  api.Value
}

// askOf has Of answer each text.
func askOf(t *testing.T, l []of) {
	t.Helper()
	for _, x := range l {
		if c, ok := Of(str(x.t)); c != (Crit{x.op, x.v}) || !ok {
			t.Errorf("Of(%.80q): %s, %v, not %s", x.t, shownCrit(c), ok, shownCrit(Crit{x.op, x.v}))
		}
	}
}

// TestOperatorsAreTheGivenOnes holds the numbers of these tests against the given constants.
func TestOperatorsAreTheGivenOnes(t *testing.T) {
	if given := []int{api.Eq, api.Ne, api.Lt, api.Le, api.Gt, api.Ge}; !slices.Equal(given, ops) {
		t.Errorf("the operators: %v", given)
	}
}

func TestOfWhatIsNoText(t *testing.T) {
	if c, ok := Of(empty); c != (Crit{eq, str("")}) || !ok {
		t.Errorf("Of what is empty: %s, %v", shownCrit(c), ok)
	}
	for _, v := range []api.Value{number(0), number(1), number(-1), number(10000), number(-25000), number(most), number(least), wrong, right} {
		if c, ok := Of(v); c != (Crit{eq, v}) || !ok {
			t.Errorf("Of(%s): %s, %v", shown(v), shownCrit(c), ok)
		}
	}
}

func TestOfAFault(t *testing.T) {
	for _, v := range faults() {
		if c, ok := Of(v); c != (Crit{}) || ok {
			t.Errorf("Of(%s): %s, %v", shown(v), shownCrit(c), ok)
		}
	}
}

func TestOfATextWithAnOperator(t *testing.T) {
	askOf(t, []of{
		{"=a", eq, str("a")}, {"<>a", ne, str("a")}, {"<a", lt, str("a")}, {"<=a", le, str("a")}, {">a", gt, str("a")}, {">=a", ge, str("a")},
		{"=5", eq, number(50000)}, {"<>5", ne, number(50000)}, {"<5", lt, number(50000)}, {"<=5", le, number(50000)}, {">5", gt, number(50000)}, {">=5", ge, number(50000)},
		{"=TRUE", eq, right}, {"<>TRUE", ne, right}, {"<FALSE", lt, wrong}, {"<=TRUE", le, right}, {">FALSE", gt, wrong}, {">=FALSE", ge, wrong},
		// With nothing behind.
		{"=", eq, str("")}, {"<>", ne, str("")}, {"<", lt, str("")}, {"<=", le, str("")}, {">", gt, str("")}, {">=", ge, str("")},
		// Two of them, one behind the other: just the first one is the operator.
		{"<>=", ne, str("=")}, {"<><", ne, str("<")}, {"<>>", ne, str(">")}, {"<><>", ne, str("<>")}, {"<>=5", ne, str("=5")}, {"==", eq, str("=")}, {"=<", eq, str("<")}, {"=>", eq, str(">")}, {"=<>", eq, str("<>")}, {"=<=5", eq, str("<=5")}, {"==5", eq, str("=5")},
		{"><", gt, str("<")}, {">>", gt, str(">")}, {"><=", gt, str("<=")}, {"><>", gt, str("<>")}, {">>=", gt, str(">=")}, {">>5", gt, str(">5")}, {"<<", lt, str("<")}, {"<<=", lt, str("<=")}, {"<<>", lt, str("<>")}, {"<<5", lt, str("<5")}, {"<==", le, str("=")}, {"<=>", le, str(">")}, {"<=<", le, str("<")}, {">==", ge, str("=")}, {">=>", ge, str(">")}, {">=<", ge, str("<")}, {">==5", ge, str("=5")},
		// A blank ahead of the operator makes it a part of the text, one behind it a part of what is looked for, and one within it ends it.
		{" =a", eq, str(" =a")}, {" <>5", eq, str(" <>5")}, {" >", eq, str(" >")}, {"\t<5", eq, str("\t<5")}, {"= a", eq, str(" a")}, {"> 5", gt, str(" 5")}, {"< ", lt, str(" ")}, {"< >a", lt, str(" >a")}, {"> =5", gt, str(" =5")}, {"< =TRUE", lt, str(" =TRUE")},
		// Other marks are no operators.
		{"!=5", eq, str("!=5")}, {"\"=5\"", eq, str("\"=5\"")}, {"≤5", eq, str("≤5")}, {"a=5", eq, str("a=5")}, {"5=", eq, str("5=")}, {"5>", eq, str("5>")}, {"*=", eq, str("*=")}, {"?<>", eq, str("?<>")},
	})
}

func TestOfATextWithoutAnOperator(t *testing.T) {
	askOf(t, []of{{"", eq, str("")}, {"a", eq, str("a")}, {"A*", eq, str("A*")}, {"?", eq, str("?")}, {" ", eq, str(" ")}, {"5", eq, number(50000)}, {"-0.5", eq, number(-5000)}, {"TRUE", eq, right}, {"FALSE", eq, wrong}, {"#DIV", eq, str("#DIV")}, {"\xff", eq, str("\xff")}, {"5*", eq, str("5*")}, {"-", eq, str("-")}})
}

// TestOfWhatIsBehind has texts that mean something, and texts that do not, behind each operator and without one.
func TestOfWhatIsBehind(t *testing.T) {
	for w, v := range means() {
		askOf(t, []of{{w, eq, v}})
		for _, op := range ops {
			askOf(t, []of{{signText[op] + w, op, v}})
		}
	}
	for _, w := range meansNothing() {
		askOf(t, []of{{w, eq, str(w)}})
		for _, op := range ops {
			askOf(t, []of{{signText[op] + w, op, str(w)}})
		}
	}
}

// TestOfTheLongestTexts has texts of 256 bytes.
func TestOfTheLongestTexts(t *testing.T) {
	for _, w := range []string{"a", "*", "?", "0", "9", "=", "<", ">", "\xff", "\x00", " "} {
		long := strings.Repeat(w, 256)
		holdOf(t, str(long))
		holdOf(t, str(long[1:]))
		for _, op := range ops {
			rest := long[len(signText[op]):]
			askOf(t, []of{{signText[op] + strings.Repeat("x", len(rest)), op, str(strings.Repeat("x", len(rest)))}})
			holdOf(t, str(signText[op]+rest))
		}
	}
	askOf(t, []of{{strings.Repeat("a", 256), eq, str(strings.Repeat("a", 256))}, {"<>" + strings.Repeat("é", 127), ne, str(strings.Repeat("é", 127))}, {"=" + strings.Repeat("0", 255), eq, str(strings.Repeat("0", 255))}})
}

// TestOfShortTexts has all short texts of bytes that matter, and each byte at each place about an operator.
func TestOfShortTexts(t *testing.T) {
	eachText("<>=5-.a* ", 5, func(w string) { holdOf(t, str(w)) })
	for b := range 256 {
		w := string([]byte{byte(b)})
		holdOf(t, str(w))
		for _, op := range ops {
			for _, behind := range []string{"", "5", "TRUE", "a"} {
				sign := signText[op]
				for _, x := range []string{w + sign + behind, sign + w + behind, sign + behind + w, sign[:1] + w + sign[1:] + behind} {
					holdOf(t, str(x))
				}
			}
		}
	}
}

func TestOfNumbersInAnyRoom(t *testing.T) {
	chance := rand.New(rand.NewSource(171))
	for range 5000 {
		x := max(least, int64(chance.Uint64())>>chance.Intn(64))
		holdOf(t, number(x))
		w := big.NewRat(x, 10000).FloatString(4)
		for _, sign := range signText {
			holdOf(t, str(sign+w))
			holdOf(t, str(sign+w+"0"))
			holdOf(t, str(sign+strings.TrimRight(w, "0")))
		}
		holdOf(t, str(w))
	}
}

// P17.2

// askLike has Like answer texts that the pattern fits, and such that it does not.
func askLike(t *testing.T, pattern string, fits, not []string) {
	t.Helper()
	for _, w := range fits {
		if !Like(pattern, w) {
			t.Errorf("Like(%.80q, %.80q): false", pattern, w)
		}
	}
	for _, w := range not {
		if Like(pattern, w) {
			t.Errorf("Like(%.80q, %.80q): true", pattern, w)
		}
	}
}

func TestLikeWithoutMarks(t *testing.T) {
	askLike(t, "", []string{""}, []string{"a", " ", "*", "?", "\x00", "\xff"})
	askLike(t, "a", []string{"a"}, []string{"", "A", "b", "aa", "ab", "ba", " a", "a ", "*", "?", "a\x00"})
	askLike(t, "A", []string{"A"}, []string{"a", "Á", ""})
	askLike(t, "Anna", []string{"Anna"}, []string{"anna", "ANNA", "Ann", "nna", "Annaa", "AAnna", "Annb", "Bnna", "An na", ""})
	askLike(t, "a.b", []string{"a.b"}, []string{"axb", "ab", "a..b"})
	askLike(t, "[ab]+\\d", []string{"[ab]+\\d"}, []string{"a1", "[ab]+1", "\\d"})
	askLike(t, "é", []string{"é"}, []string{"e", "É", "\xc3", "\xa9", "\u0065\u0301"})
	askLike(t, "a~b", []string{"a~b"}, []string{"ab", "a"})
}

func TestLikeWithStars(t *testing.T) {
	all := []string{"", "a", "A", "ab", " ", "*", "**", "?", "*?", "\n", "\x00", "\xff", "é", "日本", strings.Repeat("a", 256), "a\nb"}
	for _, pattern := range []string{"*", "**", "***", strings.Repeat("*", 300)} {
		askLike(t, pattern, all, nil)
	}
	askLike(t, "a*", []string{"a", "ab", "aa", "a*", "abc", "a\n"}, []string{"", "b", "ba", "A", "Ab", " a", "*a"})
	askLike(t, "*a", []string{"a", "ba", "aa", "*a", "cba", "aba"}, []string{"", "b", "ab", "A", "a ", "a*"})
	askLike(t, "a*b", []string{"ab", "aab", "abb", "axb", "abab", "a*b", "axxxb"}, []string{"", "a", "b", "ba", "abc", "cab", "aB", "aba"})
	askLike(t, "*a*", []string{"a", "ba", "ab", "bab", "aaa", "*a*"}, []string{"", "b", "bb", "A", "*"})
	askLike(t, "a**b", []string{"ab", "axb", "a**b", "a*b"}, []string{"a", "b", "abc", "ba"})
	askLike(t, "*a*b*", []string{"ab", "xaxbx", "aab", "abb", "bab", "abab"}, []string{"", "a", "b", "ba", "bba", "xbxax"})
	askLike(t, "a*a", []string{"aa", "aaa", "aba"}, []string{"a", "", "ab", "aab"})
	askLike(t, "ab*ba", []string{"abba", "abxba", "ababba"}, []string{"aba", "ab", "ba", "abab", "abbab"})
}

func TestLikeWithMarksForOneByte(t *testing.T) {
	askLike(t, "?", []string{"a", "A", " ", "?", "*", "\x00", "\n", "\xff", "\x80"}, []string{"", "aa", "é", "  "})
	askLike(t, "??", []string{"ab", "aa", "é", "\xff\xfe", "?*"}, []string{"", "a", "abc", "日"})
	askLike(t, "???", []string{"abc", "日", "éa"}, []string{"", "a", "ab", "abcd", "éé"})
	askLike(t, "a?", []string{"ab", "aa", "a?", "a*"}, []string{"", "a", "ba", "abc", "Ab"})
	askLike(t, "?a", []string{"ba", "aa", "?a"}, []string{"", "a", "ab", "bba"})
	askLike(t, "a?c", []string{"abc", "acc", "a?c", "aac"}, []string{"ac", "abbc", "ab", "abd", "bbc"})
	askLike(t, "????????", []string{"12345678"}, []string{"", "1234567", "123456789"})
}

func TestLikeWithBothMarks(t *testing.T) {
	for _, pattern := range []string{"?*", "*?", "**?", "?**", "*?*"} {
		askLike(t, pattern, []string{"a", "ab", "abc", "?", "*", "\xff", "é"}, []string{""})
	}
	for _, pattern := range []string{"??*", "*??", "?*?", "*?*?", "?*?*", "*?*?*", "**?**?**"} {
		askLike(t, pattern, []string{"ab", "abc", "abcd", "é", "**"}, []string{"", "a", "?"})
	}
	askLike(t, "a?*", []string{"ab", "abc", "aa"}, []string{"a", "", "ba"})
	askLike(t, "a*?", []string{"ab", "abc", "aa"}, []string{"a", "", "ba"})
	askLike(t, "*?b", []string{"ab", "bb", "xxb", "bab"}, []string{"b", "", "ba"})
	askLike(t, "?*b", []string{"ab", "bb", "xxb", "bab"}, []string{"b", "", "ba"})
	askLike(t, "*a?c*", []string{"abc", "xabcx", "aaaac", "aacc"}, []string{"ac", "xacx", "abbc", ""})
	askLike(t, "*a?", []string{"ab", "aab", "aaa", "xaax"}, []string{"a", "aabb", "ba"})
}

// TestLikeGivesBack has a * that must give back what it first took.
func TestLikeGivesBack(t *testing.T) {
	askLike(t, "*ab", []string{"ab", "aab", "abab", "aaab", "abaab"}, []string{"aba", "aa", "abb", "b"})
	askLike(t, "*a*b", []string{"ab", "aab", "abb", "abab", "abxb", "xabyb"}, []string{"aba", "abc", "abx", "ba", "b"})
	askLike(t, "*aab", []string{"aab", "aaab", "aaaab", "aabaab", "ababaab"}, []string{"ab", "aabb", "aaba", "abab"})
	askLike(t, "*abac*", []string{"abac", "ababac", "abababac", "xabacx", "abaabac"}, []string{"abab", "ababa", "abaac", "abaxc"})
	askLike(t, "a*ab*b", []string{"aabb", "aaabb", "aabab", "aabxabb"}, []string{"abb", "aab", "aaba", "abab"})
	askLike(t, "*?ab", []string{"xab", "aab", "abab", "aaab"}, []string{"ab", "aba"})
	askLike(t, "*ss*ip*", []string{"mississippi", "ssip", "ssissip"}, []string{"misisippi", "mississi", "ipss", "ssi", "sips"})
	askLike(t, "x*ab*ab*cd", []string{"xababcd", "xabababcd", "xab ab cd cd", "xabab cdcd"}, []string{"xabcd", "xababc", "xababcdx", "xcdabab"})
}

// TestLikeOfTextsWithMarks has marks in texts: there they stand for nothing but themselves.
func TestLikeOfTextsWithMarks(t *testing.T) {
	askLike(t, "a", []string{"a"}, []string{"*", "?", "a*", "*a"})
	askLike(t, "ab", []string{"ab"}, []string{"*", "??", "a*", "?b", "a?"})
	askLike(t, "*", []string{"*", "?", "**?"}, nil)
	askLike(t, "?", []string{"*", "?"}, []string{"**", "??", "*?"})
	askLike(t, "a*?", []string{"a*?", "a?", "a*", "a**"}, []string{"a", "*?"})
	askLike(t, "*x", []string{"*x", "**x", "?x", "*?x"}, []string{"*", "x*", "*x*"})
	askLike(t, "?x", []string{"*x", "?x"}, []string{"*", "x*", "**x", "?"})
	askLike(t, "x?y", []string{"x*y", "x?y"}, []string{"xy", "x**y", "x*"})
	askLike(t, "*b", []string{"*b", "*ab", "a*b"}, []string{"b*", "*", "b?"})
}

// TestLikeOfEachByte holds each byte, as a pattern and within one, against each byte: a ? stands for each one, also for one that is no whole rune.
func TestLikeOfEachByte(t *testing.T) {
	for p := range 256 {
		for b := range 256 {
			pattern, w := string([]byte{byte(p)}), string([]byte{byte(b)})
			want := p == b || p == '*' || p == '?'
			for _, x := range [][2]string{{pattern, w}, {"a" + pattern + "c", "a" + w + "c"}, {"\xff" + pattern, "\xff" + w}, {pattern + "\xa9", w + "\xa9"}} {
				if got := Like(x[0], x[1]); got != want {
					t.Errorf("Like(%q, %q): %v", x[0], x[1], got)
				}
			}
			holdLike(t, "*"+pattern, w+w)
			holdLike(t, pattern+"*", w+"a"+w)
			holdLike(t, "?*"+pattern, w+"*"+w)
		}
	}
	askLike(t, "caf??", []string{"café", "cafes"}, []string{"cafe"})
	askLike(t, "\xc3?", []string{"é", "è", "\xc3\xff"}, []string{"\xc3", "e"})
	askLike(t, "*\xa9", []string{"é", "\xa9", "xé"}, []string{"è", "éx"})
	askLike(t, "\xc3*\xa9", []string{"é", "éé", "è©"}, []string{"éè", "\xc3"})
}

// TestLikeOfShortTexts has all short patterns and all short texts of a few bytes.
func TestLikeOfShortTexts(t *testing.T) {
	eachText("ab*?", 5, func(pattern string) {
		eachText("ab*", 4, func(w string) { holdLike(t, pattern, w) })
	})
	eachText("ab*", 6, func(pattern string) {
		eachText("ab", 6, func(w string) { holdLike(t, pattern, w) })
	})
	eachText("a?*", 7, func(pattern string) {
		eachText("a", 8, func(w string) { holdLike(t, pattern, w) })
	})
}

func TestLikeOfTexts(t *testing.T) {
	chance := rand.New(rand.NewSource(172))
	for range 40000 {
		w := chanceText(chance, "aab", 30)
		holdLike(t, chanceText(chance, "aab**?", 12), w)
		// Made out of the text, a pattern fits more often: pieces of it give way to marks, and once more a byte is another one.
		b := []byte(w)
		for i := range b {
			switch chance.Intn(4) {
			case 0:
				b[i] = '?'
			case 1:
				b[i] = '*'
			}
		}
		holdLike(t, string(b), w)
		if len(b) > 0 {
			b[chance.Intn(len(b))] = 'b'
			holdLike(t, string(b), w)
			holdLike(t, string(b[1:]), w)
		}
	}
}

// TestLikeOfLongTexts has long texts of one byte, with many * in the pattern: each * tried with each one's bytes would never end.
func TestLikeOfLongTexts(t *testing.T) {
	for _, n := range []int{255, 256, 5000} {
		long := strings.Repeat("a", n)
		for _, piece := range []string{"a*", "*a", "*a*", "?*", "*?", "a*?", "**a", "aa*a*"} {
			for _, times := range []int{1, 30, 80} {
				pattern := strings.Repeat(piece, times)
				size := len(strings.ReplaceAll(pattern, "*", ""))
				askLike(t, pattern+"*", []string{long}, []string{strings.Repeat("a", size-1)})
				askLike(t, pattern+"*b", []string{long + "b"}, []string{long, long + "ba"})
				askLike(t, "*b"+pattern, nil, []string{long})
				askLike(t, pattern+"*b*", []string{long + "b", long + "b" + long}, []string{long})
				askLike(t, pattern+"b"+pattern, nil, []string{long})
			}
		}
		askLike(t, strings.Repeat("*", n)+"b", []string{long + "b"}, []string{long})
		askLike(t, strings.Repeat("?", n), []string{long}, []string{long + "a", long[1:]})
		askLike(t, strings.Repeat("?", n)+"*", []string{long, long + "a"}, []string{long[1:]})
	}
}

// TestLikeButForOneByte has what fits but for the first byte, the last one, or one in the middle, and what has one too many or too few.
func TestLikeButForOneByte(t *testing.T) {
	for _, n := range []int{1, 2, 3, 17, 128, 256} {
		w := strings.Repeat("xy", n)[:n]
		askLike(t, w, []string{w}, []string{w[1:], w[:n-1], w + "x", "x" + w})
		for _, i := range []int{0, n / 2, n - 1} {
			near := w[:i] + "z" + w[i+1:]
			askLike(t, w, nil, []string{near})
			askLike(t, near, []string{near}, []string{w})
			askLike(t, near[:i]+"?"+near[i+1:], []string{w, near}, []string{w + "x", w[1:]})
			askLike(t, near[:i]+"*"+near[i+1:], []string{w, near, w[:i] + w[i+1:]}, nil)
		}
		askLike(t, "*"+w, []string{w, "z" + w, w + w}, []string{w + "z", w[1:], w[:n-1] + "z"})
		askLike(t, w+"*", []string{w, w + "z", w + w}, []string{"z" + w, w[:n-1], w[:n-1] + "z"})
	}
}

// P17.3

// hit is what is looked for, told by a value, with values that it hits, and such that it does not.
type hit struct {
	by       api.Value
	hits, no []api.Value
}

// askHits has Hits answer each of them.
func askHits(t *testing.T, l []hit) {
	t.Helper()
	for _, x := range l {
		c, ok := Of(x.by)
		if !ok {
			t.Errorf("Of(%s): false", shown(x.by))
		}
		for _, v := range x.hits {
			if !Hits(c, v) {
				t.Errorf("Hits by %s, of %s: false", shown(x.by), shown(v))
			}
		}
		for _, v := range x.no {
			if Hits(c, v) {
				t.Errorf("Hits by %s, of %s: true", shown(x.by), shown(v))
			}
		}
	}
}

// texts is the list of these texts.
func texts(ts ...string) []api.Value {
	l := []api.Value{}
	for _, t := range ts {
		l = append(l, str(t))
	}
	return l
}

// numbers is the list of these numbers.
func numbers(xs ...int64) []api.Value {
	l := []api.Value{}
	for _, x := range xs {
		l = append(l, number(x))
	}
	return l
}

func TestHitsOfTwoTexts(t *testing.T) {
	askHits(t, []hit{
		{str("b"), texts("b"), texts("", "a", "c", "B", "bb", "ab")},
		{str("=b"), texts("b"), texts("", "a", "c", "B", "bb", "ab", "=b")},
		{str("<>b"), texts("", "a", "c", "B", "bb", "ab", "<>b"), texts("b")},
		{str("<b"), texts("", "a", "B", "ab", "azzz", "<b", "\x00", "Z", "5", "TRUE"), texts("b", "c", "bb", "\xff", "é")},
		{str("<=b"), texts("", "a", "B", "ab", "b"), texts("c", "bb", "b\x00", "\xff", "é")},
		{str(">b"), texts("c", "bb", "b\x00", "\xff", "é"), texts("", "a", "B", "ab", "b")},
		{str(">=b"), texts("b", "c", "bb", "b\x00", "\xff"), texts("", "a", "B", "ab", "azzz")},
		// Just = and <> have patterns: to the others * and ? are bytes like all others.
		{str("b*"), texts("b", "bb", "b*", "bcd"), texts("", "a", "ab", "B")},
		{str("=b*"), texts("b", "bb", "b*", "bcd"), texts("", "a", "ab", "B")},
		{str("<>b*"), texts("", "a", "ab", "B"), texts("b", "bb", "b*", "bcd")},
		{str("b?"), texts("bb", "b*", "b?"), texts("b", "bbb", "", "é")},
		{str("<>b?"), texts("b", "bbb", "", "é"), texts("bb", "b*", "b?")},
		{str("<b*"), texts("", "a", "b", "b!", "b)"), texts("b*", "b+", "ba", "b*a", "c")},
		{str("<=b*"), texts("", "a", "b", "b!", "b*"), texts("b+", "ba", "b*a", "c")},
		{str(">b*"), texts("b+", "ba", "b*a", "c"), texts("", "a", "b", "b!", "b*")},
		{str(">=b*"), texts("b*", "b+", "ba", "b*a", "c"), texts("", "a", "b", "b!")},
		{str(">?"), texts("@", "A", "??", "a"), texts("?", ">", "*", "", "5")},
		{str("<=?"), texts("?", ">", "*", "", "5"), texts("@", "A", "??", "a")},
		{str("*"), texts("", "a", "*", "5", "TRUE", "\xff"), nil},
		{str("<>*"), nil, texts("", "a", "*", "5", "TRUE", "\xff")},
		{str("?*"), texts("a", "*", "5"), texts("")},
		{str(" 5"), texts(" 5"), texts("5", "", " 5 ")},
		{str("true"), texts("true"), texts("TRUE", "True", "")},
	})
}

func TestHitsOfTwoNumbers(t *testing.T) {
	below, above := numbers(least, -70000, -1, 0, 1, 49999), numbers(50001, 70000, 500000, most)
	five := numbers(50000)
	askHits(t, []hit{
		{number(50000), five, slices.Concat(below, above)}, {str("5"), five, slices.Concat(below, above)}, {str("=5"), five, slices.Concat(below, above)}, {str("=5.0"), five, below}, {str("005"), five, above},
		{str("<>5"), slices.Concat(below, above), five},
		{str("<5"), below, slices.Concat(five, above)}, {str("<=5"), slices.Concat(below, five), above},
		{str(">5"), above, slices.Concat(five, below)}, {str(">=5"), slices.Concat(above, five), below},
		// By what they are, not by their digits, and below 0 the other way round than by these.
		{str("<10"), numbers(90000, 20000, -100000), numbers(100000, 110000)}, {str(">9"), numbers(100000, 90001), numbers(90000, 10000)}, {str("<-5"), numbers(-50001, -60000, -100000), numbers(-50000, -49999, 0, 60000)}, {str(">-5"), numbers(-49999, -10000, 0, 10000), numbers(-50000, -60000)},
		{number(0), numbers(0), numbers(1, -1)}, {str("-0"), numbers(0), numbers(1, -1)}, {str("<0"), numbers(-1, least), numbers(0, 1, most)}, {str(">=-0"), numbers(0, 1, most), numbers(-1, least)},
		{number(most), numbers(most), numbers(most-1, least, -1)}, {number(least), numbers(least), numbers(least+1, most, 0)}, {str("<" + mostText), numbers(most-1, 0, least), numbers(most)}, {str(">-" + mostText), numbers(least+1, 0, most), numbers(least)}, {str(">=" + mostText), numbers(most), numbers(most-1, least)}, {str("<=-" + mostText), numbers(least), numbers(least+1, most)},
	})
}

func TestHitsOfTwoTruths(t *testing.T) {
	yes, no, both := []api.Value{right}, []api.Value{wrong}, []api.Value{wrong, right}
	askHits(t, []hit{
		{right, yes, no}, {wrong, no, yes}, {str("TRUE"), yes, no}, {str("=FALSE"), no, yes},
		{str("<>TRUE"), no, yes}, {str("<>FALSE"), yes, no}, {str("<TRUE"), no, yes}, {str("<FALSE"), nil, both}, {str("<=TRUE"), both, nil}, {str("<=FALSE"), no, yes},
		{str(">TRUE"), nil, both}, {str(">FALSE"), yes, no}, {str(">=TRUE"), yes, no}, {str(">=FALSE"), both, nil},
	})
}

// TestHitsOfWhatIsEmpty has what is empty: it counts as the empty text, on both sides.
func TestHitsOfWhatIsEmpty(t *testing.T) {
	bare, none := []api.Value{empty, str("")}, append(texts("a", " ", "0", "*"), number(0), number(10000), wrong, right)
	askHits(t, []hit{
		{empty, bare, none}, {str(""), bare, none}, {str("="), bare, none}, {str("<>"), none, bare},
		{str("<"), nil, slices.Concat(bare, none)}, {str("<="), bare, none}, {str(">"), texts("a", " ", "0", "*"), append(numbers(0, 10000), empty, str(""), wrong, right)}, {str(">="), append(texts("a", " ", "0", "*"), bare...), numbers(0, 10000)},
		{str("a"), nil, bare}, {str("<>a"), bare, nil}, {str("<a"), bare, nil}, {str("<=a"), bare, nil}, {str(">a"), nil, bare}, {str(">=a"), nil, bare},
		{str("*"), bare, nil}, {str("**"), bare, nil}, {str("?"), nil, bare}, {str("<>*"), nil, bare}, {str("<>?"), bare, nil},
		// It is neither 0 nor false.
		{number(0), nil, bare}, {str("0"), nil, bare}, {str("<>0"), bare, nil}, {str("<=0"), nil, bare}, {str(">=0"), nil, bare}, {str("<1"), nil, bare}, {str(">-1"), nil, bare},
		{wrong, nil, bare}, {str("FALSE"), nil, bare}, {str("<>FALSE"), bare, nil}, {str("<=FALSE"), nil, bare}, {str(">=FALSE"), nil, bare}, {str("<TRUE"), nil, bare},
	})
}

// samples is values of each kind but faults, that stand about one another in each way; what is empty counts as a text.
func samples() map[int][]api.Value {
	return map[int][]api.Value{
		1: numbers(0, 1, -1, 10000, 50000, -70000, most, least),
		2: append(texts("", "a", "b", "5", "0", "1", "TRUE", "FALSE", "*", "?", "#DIV", "\xff", strings.Repeat("a", 256)), empty),
		3: {wrong, right},
	}
}

// TestHitsOfUnlikeKinds has each operator with each pair of unlike kinds.
func TestHitsOfUnlikeKinds(t *testing.T) {
	for mine, looked := range samples() {
		for _, w := range looked {
			if w == empty {
				continue
			}
			for _, op := range ops {
				for kind, all := range samples() {
					for _, v := range all {
						if got := Hits(Crit{op, w}, v); kind != mine && got != (op == ne) {
							t.Errorf("Hits of %s, of %s: %v", shownCrit(Crit{op, w}), shown(v), got)
						}
					}
				}
			}
		}
	}
	askHits(t, []hit{
		{str("5"), nil, texts("5", "5.0")}, {str("<>5"), texts("5", "a"), nil}, {str("TRUE"), nil, texts("TRUE")}, {str("<>TRUE"), append(texts("TRUE"), number(10000)), nil}, {right, nil, numbers(10000, 1)}, {wrong, nil, numbers(0)}, {number(10000), nil, []api.Value{right}},
		{str("5*"), texts("5", "55"), numbers(50000, 550000)}, {str("*"), nil, append(numbers(0, 50000), wrong, right)}, {str("<>*"), append(numbers(0, 50000), wrong, right), texts("a", "")}, {str(">a"), nil, append(numbers(most), right)}, {str("<a"), nil, append(numbers(least), wrong)},
	})
}

// TestFaultsAreNeverHit has each fault with whatever may be looked for, also with the text of the fault.
func TestFaultsAreNeverHit(t *testing.T) {
	looked := append(texts("#DIV", "#VALUE", "#NA", "*#*", "1", "2"), number(10000), number(1))
	for _, l := range samples() {
		looked = append(looked, l...)
	}
	for _, w := range looked {
		c, ok := Of(w)
		if !ok {
			t.Errorf("Of(%s): false", shown(w))
		}
		for _, v := range faults() {
			if Hits(c, v) {
				t.Errorf("Hits by %s, of %s: true", shown(w), shown(v))
			}
			for _, op := range ops {
				if Hits(Crit{op, c.V}, v) {
					t.Errorf("Hits of %s, of %s: true", shownCrit(Crit{op, c.V}), shown(v))
				}
			}
		}
	}
}

// manyValues is values of each kind that may be.
func manyValues() []api.Value {
	l := append(faults(), empty, wrong, right)
	l = append(l, numbers(0, 1, -1, 2, 10000, -10000, 15000, 50000, 70000, 100000, 125000, most, most-1, least, least+1)...)
	for w := range means() {
		l = append(l, str(w))
	}
	l = append(l, texts(meansNothing()...)...)
	l = append(l, texts("b", "B", "aa", "ba", "a*", "*a", "*a*", "a?", "?a", "??", "?*", "*b*a", "**", "=", "<", ">", "<>", "<=", ">=", "<>*", "=*", "<a", ">5", "<5", ">=TRUE", "<>0", "=5", "==", "\xffa", strings.Repeat("a", 255), strings.Repeat("a", 256), strings.Repeat("*", 256), strings.Repeat("a*", 128))...)
	return l
}

// TestHitsByItsWords has each value looked for by each operator in each value, and out of each value.
func TestHitsByItsWords(t *testing.T) {
	for _, w := range manyValues() {
		c, ok := Of(w)
		if !ok {
			continue
		}
		for _, v := range manyValues() {
			holdHits(t, c, v)
			for _, op := range ops {
				holdHits(t, Crit{op, c.V}, v)
			}
		}
	}
}

// P17.4

// TestWhatIsHitAndWhatIsNot has all pairs of values: of what is no fault, each is hit by = or by <>, and by one of them alone; of one kind by < or by >=, and by > or by <=.
func TestWhatIsHitAndWhatIsNot(t *testing.T) {
	for _, w := range manyValues() {
		c, ok := Of(w)
		if !ok {
			continue
		}
		for _, v := range manyValues() {
			if v.Kind == 4 {
				continue
			}
			hits := func(op int) bool { return Hits(Crit{op, c.V}, v) }
			if hits(eq) == hits(ne) {
				t.Errorf("%s: of %s both = and <> tell %v", shown(c.V), shown(v), hits(eq))
			}
			kind := v.Kind
			if kind == 0 {
				kind = 2
			}
			if kind == c.V.Kind && (hits(lt) == hits(ge) || hits(gt) == hits(le)) {
				t.Errorf("%s: of %s < tells %v, >= %v, > %v, <= %v", shown(c.V), shown(v), hits(lt), hits(ge), hits(gt), hits(le))
			}
			if kind != c.V.Kind && (hits(lt) || hits(le) || hits(gt) || hits(ge)) {
				t.Errorf("%s: of %s, of another kind, < tells %v, <= %v, > %v, >= %v", shown(c.V), shown(v), hits(lt), hits(le), hits(gt), hits(ge))
			}
		}
	}
}

// TestWithTwoOperators has the same text behind = and <>, and behind < and >=, as texts that Of takes.
func TestWithTwoOperators(t *testing.T) {
	for _, pair := range [][2]string{{"=", "<>"}, {"<", ">="}, {">", "<="}} {
		for _, w := range append(meansNothing(), "5", "-0.5", "TRUE", "FALSE", "<", ">=", "=a") {
			one, ok := Of(str(pair[0] + w))
			other, is := Of(str(pair[1] + w))
			// Behind a > or a < the text may make another operator of it.
			if !ok || !is || one.V != other.V {
				continue
			}
			for _, v := range manyValues() {
				kind := v.Kind
				if kind == 0 {
					kind = 2
				}
				if kind == 4 || pair[0] != "=" && kind != one.V.Kind {
					continue
				}
				if Hits(one, v) == Hits(other, v) {
					t.Errorf("%q behind %s and %s, of %s: %v", w, pair[0], pair[1], shown(v), Hits(one, v))
				}
			}
		}
	}
}

func TestATextWithoutMarksFitsItselfAlone(t *testing.T) {
	l := append(meansNothing(), "b", "aa", "ab", "ba", "Ab", "aB", "\xffa", "a\xff", "日本", strings.Repeat("a", 255), strings.Repeat("a", 256))
	eachText("aA\xff", 4, func(w string) { l = append(l, w) })
	for _, pattern := range l {
		if strings.ContainsAny(pattern, "*?") {
			continue
		}
		for _, w := range l {
			if got := Like(pattern, w); got != (pattern == w) {
				t.Errorf("Like(%.80q, %.80q): %v", pattern, w, got)
			}
		}
	}
}

// TestNothingPanics has values that may not be, and what is looked for that Of never makes: of such nothing else is promised.
func TestNothingPanics(t *testing.T) {
	l := manyValues()
	for _, kind := range []int{math.MinInt, -1, 0, 1, 2, 3, 4, 5, 257, 1 << 32, math.MaxInt} {
		for _, x := range []int64{none, least, -1, 0, 1, 2, 7, 8, most} {
			for _, w := range []string{"", "a", "*", "<>5", "TRUE", strings.Repeat("*", 257), strings.Repeat("<", 1000)} {
				l = append(l, api.Value{Kind: kind, Num: x, Text: w})
			}
		}
	}
	for _, w := range l {
		c, _ := Of(w)
		for i, v := range l {
			Hits(c, v)
			Hits(Crit{[]int{math.MinInt, -1, 0, 1, 6, eq, ne, lt, le, gt, ge, 13, math.MaxInt}[i%13], w}, v)
		}
	}
}

// FuzzAll holds all calls against the document's words.
func FuzzAll(f *testing.F) {
	for _, w := range append(meansNothing(), "<>a*", "<=12.50", ">=TRUE", "*a*b?c") {
		f.Add(w, "aab", int64(0))
		f.Add("a*b", w, least)
		f.Add("<"+w, w+"x", most)
	}
	f.Fuzz(func(t *testing.T, pattern, w string, x int64) {
		// The words tell a pattern by each byte of it with each byte of the text: of long ones that takes long.
		pattern, w, x = pattern[:min(256, len(pattern))], w[:min(256, len(w))], max(least, x)
		holdLike(t, pattern, w)
		for _, by := range []api.Value{str(pattern), str(w), number(x)} {
			holdOf(t, by)
			c, _ := Of(by)
			for _, v := range []api.Value{str(w), str(pattern), number(x), number(x % 100000), empty, right, fault(1)} {
				for _, op := range append(ops, c.Op) {
					holdHits(t, Crit{op, c.V}, v)
				}
			}
		}
	})
}
