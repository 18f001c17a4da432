package fname

import (
	"math"
	"strconv"
	"strings"
	"testing"
)

// function is a row of the chapter's table, written out.
type function struct {
	number int
	name   string
	least  int
	most   int
	kinds  string // with a blank between each two; none, if there is no argument
}

// functions is the chapter's table.
var functions = []function{
	{1, "ABS", 1, 1, "v"},
	{2, "AND", 1, 8, "e"},
	{3, "AVERAGE", 1, 8, "l"},
	{4, "AVERAGEIF", 2, 2, "r v"},
	{5, "CEILING", 2, 2, "v"},
	{6, "CHAR", 1, 1, "v"},
	{7, "CHOOSE", 2, 8, "e"},
	{8, "CODE", 1, 1, "v"},
	{9, "COLUMN", 1, 1, "n"},
	{10, "COLUMNS", 1, 1, "n"},
	{11, "COMBIN", 2, 2, "v"},
	{12, "CONCAT", 1, 8, "l"},
	{13, "COUNT", 1, 8, "l"},
	{14, "COUNTA", 1, 8, "l"},
	{15, "COUNTBLANK", 1, 8, "l"},
	{16, "COUNTIF", 2, 2, "r v"},
	{17, "DECLASS", 2, 2, "e t"},
	{18, "EVEN", 1, 1, "v"},
	{19, "EXACT", 2, 2, "v"},
	{20, "FACT", 1, 1, "v"},
	{21, "FIND", 2, 2, "v"},
	{22, "FLOOR", 2, 2, "v"},
	{23, "GCD", 2, 2, "v"},
	{24, "HLOOKUP", 3, 3, "v r v"},
	{25, "IF", 2, 3, "e"},
	{26, "IFERROR", 2, 2, "e"},
	{27, "INDEX", 2, 3, "r v"},
	{28, "INT", 1, 1, "v"},
	{29, "ISBLANK", 1, 1, "v"},
	{30, "ISERROR", 1, 1, "v"},
	{31, "ISLOGICAL", 1, 1, "v"},
	{32, "ISNUMBER", 1, 1, "v"},
	{33, "ISTEXT", 1, 1, "v"},
	{34, "LARGE", 2, 2, "r v"},
	{35, "LCM", 2, 2, "v"},
	{36, "LEFT", 2, 2, "v"},
	{37, "LEN", 1, 1, "v"},
	{38, "LOWER", 1, 1, "v"},
	{39, "MATCH", 2, 2, "v r"},
	{40, "MAX", 1, 8, "l"},
	{41, "MEDIAN", 1, 8, "l"},
	{42, "MID", 3, 3, "v"},
	{43, "MIN", 1, 8, "l"},
	{44, "MOD", 2, 2, "v"},
	{45, "MODE", 1, 8, "l"},
	{46, "NA", 0, 0, ""},
	{47, "NOT", 1, 1, "v"},
	{48, "ODD", 1, 1, "v"},
	{49, "OR", 1, 8, "e"},
	{50, "POWER", 2, 2, "v"},
	{51, "PRODUCT", 1, 8, "l"},
	{52, "PROPER", 1, 1, "v"},
	{53, "QUOTIENT", 2, 2, "v"},
	{54, "RANK", 2, 2, "v r"},
	{55, "REPT", 2, 2, "v"},
	{56, "REVERSE", 1, 1, "v"},
	{57, "RIGHT", 2, 2, "v"},
	{58, "ROUND", 2, 2, "v"},
	{59, "ROUNDDOWN", 2, 2, "v"},
	{60, "ROUNDUP", 2, 2, "v"},
	{61, "ROW", 1, 1, "n"},
	{62, "ROWS", 1, 1, "n"},
	{63, "SIGN", 1, 1, "v"},
	{64, "SMALL", 2, 2, "r v"},
	{65, "SQRT", 1, 1, "v"},
	{66, "SUBSTITUTE", 3, 3, "v"},
	{67, "SUM", 1, 8, "l"},
	{68, "SUMIF", 2, 2, "r v"},
	{69, "SUMPRODUCT", 2, 2, "r"},
	{70, "SUMSQ", 1, 8, "l"},
	{71, "SWITCH", 3, 8, "e"},
	{72, "TEXT", 2, 2, "v"},
	{73, "TRIM", 1, 1, "v"},
	{74, "TRUNC", 1, 1, "v"},
	{75, "UPPER", 1, 1, "v"},
	{76, "VALUE", 1, 1, "v"},
	{77, "VLOOKUP", 3, 3, "v r v"},
	{78, "XOR", 1, 8, "l"},
}

// constant is a constant of the package, by its name, and the number that the chapter tells.
type constant struct {
	got    int
	name   string
	number int
}

// constants is all of them but Last.
var constants = []constant{
	{Abs, "Abs", 1},
	{And, "And", 2},
	{Average, "Average", 3},
	{Averageif, "Averageif", 4},
	{Ceiling, "Ceiling", 5},
	{Char, "Char", 6},
	{Choose, "Choose", 7},
	{Code, "Code", 8},
	{Column, "Column", 9},
	{Columns, "Columns", 10},
	{Combin, "Combin", 11},
	{Concat, "Concat", 12},
	{Count, "Count", 13},
	{Counta, "Counta", 14},
	{Countblank, "Countblank", 15},
	{Countif, "Countif", 16},
	{Declass, "Declass", 17},
	{Even, "Even", 18},
	{Exact, "Exact", 19},
	{Fact, "Fact", 20},
	{Find, "Find", 21},
	{Floor, "Floor", 22},
	{Gcd, "Gcd", 23},
	{Hlookup, "Hlookup", 24},
	{If, "If", 25},
	{Iferror, "Iferror", 26},
	{Index, "Index", 27},
	{Int, "Int", 28},
	{Isblank, "Isblank", 29},
	{Iserror, "Iserror", 30},
	{Islogical, "Islogical", 31},
	{Isnumber, "Isnumber", 32},
	{Istext, "Istext", 33},
	{Large, "Large", 34},
	{Lcm, "Lcm", 35},
	{Left, "Left", 36},
	{Len, "Len", 37},
	{Lower, "Lower", 38},
	{Match, "Match", 39},
	{Max, "Max", 40},
	{Median, "Median", 41},
	{Mid, "Mid", 42},
	{Min, "Min", 43},
	{Mod, "Mod", 44},
	{Mode, "Mode", 45},
	{Na, "Na", 46},
	{Not, "Not", 47},
	{Odd, "Odd", 48},
	{Or, "Or", 49},
	{Power, "Power", 50},
	{Product, "Product", 51},
	{Proper, "Proper", 52},
	{Quotient, "Quotient", 53},
	{Rank, "Rank", 54},
	{Rept, "Rept", 55},
	{Reverse, "Reverse", 56},
	{Right, "Right", 57},
	{Round, "Round", 58},
	{Rounddown, "Rounddown", 59},
	{Roundup, "Roundup", 60},
	{Row, "Row", 61},
	{Rows, "Rows", 62},
	{Sign, "Sign", 63},
	{Small, "Small", 64},
	{Sqrt, "Sqrt", 65},
	{Substitute, "Substitute", 66},
	{Sum, "Sum", 67},
	{Sumif, "Sumif", 68},
	{Sumproduct, "Sumproduct", 69},
	{Sumsq, "Sumsq", 70},
	{Switch, "Switch", 71},
	{Text, "Text", 72},
	{Trim, "Trim", 73},
	{Trunc, "Trunc", 74},
	{Upper, "Upper", 75},
	{Value, "Value", 76},
	{Vlookup, "Vlookup", 77},
	{Xor, "Xor", 78},
}

// farInts is whole numbers about 0, about the ends of the table, and out to both ends of the type's range, with those that would be a function's, or a place's, if they were cut short or wrapped round.
func farInts() []int {
	l := []int{}
	for i := -100; i <= 200; i++ {
		l = append(l, i)
	}
	for i := -9; i <= 87; i++ {
		for _, far := range []int{1 << 8, 1 << 15, 1 << 16, 1 << 31, 1 << 32, 1 << 33, 1 << 48, 1 << 56, 1 << 60, 1 << 61, 1 << 62} {
			l = append(l, far+i, -far+i)
		}
	}
	for i := range 100 {
		l = append(l, math.MinInt+i, math.MaxInt-i, math.MinInt/2+i, math.MaxInt/2-i)
	}
	// A number of bytes a row, wrapped round at 64 bits, would find a row by these, too.
	for wide := 2; wide <= 64; wide++ {
		for i := -1; i <= 80; i++ {
			l = append(l, math.MaxInt/wide+i, math.MinInt/wide-i, int(math.MaxUint64/uint(wide))+i)
		}
	}
	return l
}

// Next come the document's words on each call.

// found is the row of a function; false: there is no such function.
func found(fn int) (function, bool) {
	for _, f := range functions {
		if f.number == fn {
			return f, true
		}
	}
	return function{}, false
}

func numberByWords(name string) int {
	for _, f := range functions {
		if f.name == name {
			return f.number
		}
	}
	return 0
}

// fitsByWords counts the numbers of arguments that a function may have.
func fitsByWords(fn, n int) bool {
	f, ok := found(fn)
	for may := f.least; ok && may <= f.most; may++ {
		if may == n {
			return true
		}
	}
	return false
}

// kindByWords tells the kinds out, one for each argument that a function may have.
func kindByWords(fn, i int) byte {
	f, _ := found(fn)
	kinds, last := strings.Fields(f.kinds), byte(0)
	for at := range f.most {
		if at < len(kinds) {
			last = kinds[at][0]
		}
		if at == i {
			return last
		}
	}
	return 0
}

// lazyByWords tells whether a function's kinds begin with e.
func lazyByWords(fn int) bool {
	f, _ := found(fn)
	return strings.HasPrefix(f.kinds, "e")
}

// Each of these holds a call against the words.

func holdNumber(t *testing.T, name string) {
	t.Helper()
	if got, want := Number(name), numberByWords(name); got != want {
		t.Errorf("Number of %.100q (%d bytes): %d, want %d", name, len(name), got, want)
	}
}

func holdName(t *testing.T, fn int) {
	t.Helper()
	f, _ := found(fn)
	if got := Name(fn); got != f.name {
		t.Errorf("Name of %d: %q, want %q", fn, got, f.name)
	}
}

func holdFits(t *testing.T, fn, n int) {
	t.Helper()
	if got, want := Fits(fn, n), fitsByWords(fn, n); got != want {
		t.Errorf("Fits of %d with %d arguments: %v, want %v", fn, n, got, want)
	}
}

func holdKind(t *testing.T, fn, i int) {
	t.Helper()
	if got, want := Kind(fn, i), kindByWords(fn, i); got != want {
		t.Errorf("Kind of %d at %d: %q, want %q", fn, i, got, want)
	}
}

func holdLazy(t *testing.T, fn int) {
	t.Helper()
	if got, want := Lazy(fn), lazyByWords(fn); got != want {
		t.Errorf("Lazy of %d: %v, want %v", fn, got, want)
	}
}

// The constants.

func TestConstants(t *testing.T) {
	if len(constants) != 78 || Last != 78 {
		t.Errorf("%d constants, and Last %d", len(constants), Last)
	}
	for i, c := range constants {
		if c.got != c.number || c.number != i+1 {
			t.Errorf("%s: %d, want %d", c.name, c.got, c.number)
		}
		name := strings.ToUpper(c.name)
		if Name(c.got) != name || Number(name) != c.got {
			t.Errorf("%s: its name is %q, and %s has the number %d", c.name, Name(c.got), name, Number(name))
		}
	}
}

// P19.1: Number.

func TestNumber(t *testing.T) {
	for _, f := range functions {
		if got := Number(f.name); got != f.number {
			t.Errorf("Number of %s: %d, want %d", f.name, got, f.number)
		}
	}
}

func TestNumberOfNamesNearby(t *testing.T) {
	for _, f := range functions {
		holdNumber(t, strings.ToLower(f.name))
		holdNumber(t, f.name[:1]+strings.ToLower(f.name[1:]))
		holdNumber(t, strings.ToLower(f.name[:1])+f.name[1:])
		for b := range 256 {
			one := string([]byte{byte(b)})
			holdNumber(t, one+f.name)
			holdNumber(t, f.name+one)
			for at := range len(f.name) {
				holdNumber(t, f.name[:at]+one+f.name[at:])
				holdNumber(t, f.name[:at]+one+f.name[at+1:])
			}
		}
		for at := range len(f.name) {
			holdNumber(t, f.name[:at])
			holdNumber(t, f.name[at:])
			holdNumber(t, f.name[:at]+f.name[at+1:])
			holdNumber(t, f.name[:at]+strings.ToLower(f.name[at:at+1])+f.name[at+1:])
			if at > 0 {
				holdNumber(t, f.name[:at-1]+f.name[at:at+1]+f.name[at-1:at]+f.name[at+1:])
			}
		}
	}
}

func TestNumberOfNamesWithBlanks(t *testing.T) {
	for _, f := range functions {
		for blanks := 1; blanks <= 20; blanks++ {
			gap := strings.Repeat(" ", blanks)
			for _, name := range []string{gap + f.name, f.name + gap, gap + f.name + gap} {
				if got := Number(name); got != 0 {
					t.Errorf("Number of %q: %d", name, got)
				}
			}
		}
	}
}

func TestNumberOfNamesThatBeginWithAnotherOne(t *testing.T) {
	for _, c := range []struct {
		name string
		want int
	}{
		{"COUNT", 13}, {"COUNTA", 14}, {"COUNTBLANK", 15}, {"COUNTIF", 16}, {"COUNTB", 0}, {"COUNTI", 0}, {"COUN", 0}, {"COUNTAIF", 0}, {"COUNTBLANKS", 0},
		{"ROUND", 58}, {"ROUNDDOWN", 59}, {"ROUNDUP", 60}, {"ROUNDD", 0}, {"ROUNDU", 0}, {"ROUNDUPS", 0}, {"DOWN", 0}, {"UP", 0},
		{"ROW", 61}, {"ROWS", 62}, {"RO", 0}, {"ROWSS", 0}, {"COLUMN", 9}, {"COLUMNS", 10}, {"COLUM", 0}, {"COLUMNSS", 0},
		{"IF", 25}, {"IFERROR", 26}, {"I", 0}, {"IFE", 0}, {"ERROR", 0}, {"SUM", 67}, {"SUMIF", 68}, {"SUMPRODUCT", 69}, {"SUMSQ", 70}, {"SU", 0}, {"SUMI", 0}, {"SUMP", 0}, {"SUMS", 0}, {"SUMSQRT", 0},
		{"AVERAGE", 3}, {"AVERAGEIF", 4}, {"AVERAGEI", 0}, {"AVG", 0}, {"MOD", 44}, {"MODE", 45}, {"MODES", 0}, {"INT", 28}, {"IN", 0}, {"NA", 46}, {"N", 0}, {"NOT", 47}, {"NO", 0}, {"OR", 49}, {"XOR", 78}, {"O", 0}, {"X", 0},
	} {
		if got := Number(c.name); got != c.want {
			t.Errorf("Number of %s: %d, want %d", c.name, got, c.want)
		}
	}
}

func TestNumberOfTwoNames(t *testing.T) {
	for _, a := range functions {
		for _, b := range functions {
			for _, between := range []string{"", " ", ",", "\n", "\r\n", "\t", "\x00", ";", "|", "("} {
				holdNumber(t, a.name+between+b.name)
			}
		}
	}
}

func TestNumberOfOtherTexts(t *testing.T) {
	for _, name := range []string{
		"", " ", "\n", "\x00", ",", "-", "0", "1", "78", "v", "e", "vvv", "---", "1 1", "TRUE", "FALSE", "A1", "#NA", "IF(", "IF()", "(IF)", "=IF", "\"IF\"", "IF\n", "\nIF", "IF\r", "IF\x00", "\x00IF", "IF.", "_IF", "IF1", "LOG10",
		"ABS 1 v", "| 1 | ABS | 1 | v |", "ABS        1 1 vvv", "ABS 1 1 v", "1 ABS", "1ABS", "ABS1",
		"\xff", "\xc3", "\xe2\x82", "\xed\xa0\x80", "ABS\xff", "\xffABS", "A\xffS", "AB\xd3", "\xc1\x81BS", "\xc1BS", "\xef\xbb\xbfABS", "A\xcc\x80BS",
		"AB\u017f", "\u017fUM", "RAN\u212a", "\u0131f", "\u0130F", "\uff21\uff22\uff33", "\u0391BS", "ABS\u00a0", "\u2003ABS", "ABS\u200b",
	} {
		if got := Number(name); got != 0 {
			t.Errorf("Number of %q: %d", name, got)
		}
	}
}

func TestNumberOfLongTexts(t *testing.T) {
	names := ""
	for _, f := range functions {
		names += f.name
		for _, far := range []int{256, 1 << 16, 1 << 20} {
			fill := strings.Repeat("A", far)
			holdNumber(t, f.name+fill)
			holdNumber(t, fill+f.name)
			holdNumber(t, strings.Repeat(" ", far)+f.name)
			holdNumber(t, f.name+strings.Repeat(" ", far))
			holdNumber(t, strings.Repeat(f.name, far/len(f.name)))
			holdNumber(t, f.name+strings.Repeat("\x00", far))
		}
		holdNumber(t, names)
	}
	holdNumber(t, strings.Repeat("\xff", 1<<20))
}

// TestNumberOfPiecesOfTheTable looks up the whole table, written in some ways, and all short pieces of it: names alone are names.
func TestNumberOfPiecesOfTheTable(t *testing.T) {
	for _, between := range []string{" ", ",", " | "} {
		rows := ""
		for _, f := range functions {
			rows += strings.Join([]string{f.name, strconv.Itoa(f.least), strconv.Itoa(f.most), f.kinds}, between) + "\n"
		}
		holdNumber(t, rows)
		for from := range len(rows) {
			for to := from; to <= min(from+20, len(rows)); to++ {
				holdNumber(t, rows[from:to])
			}
		}
	}
}

// TestNumberOfAllShortTexts looks up all texts of at most four great letters, and all of at most two bytes.
func TestNumberOfAllShortTexts(t *testing.T) {
	want := map[string]int{}
	for _, f := range functions {
		want[f.name] = f.number
	}
	look := func(name string) {
		if got := Number(name); got != want[name] {
			t.Errorf("Number of %q: %d, want %d", name, got, want[name])
		}
	}
	var more func(name string)
	more = func(name string) {
		look(name)
		for b := byte('A'); len(name) < 4 && b <= 'Z'; b++ {
			more(name + string([]byte{b}))
		}
	}
	more("")
	for a := range 256 {
		look(string([]byte{byte(a)}))
		for b := range 256 {
			look(string([]byte{byte(a), byte(b)}))
		}
	}
}

// P19.1: Name.

func TestName(t *testing.T) {
	for _, f := range functions {
		if got := Name(f.number); got != f.name {
			t.Errorf("Name of %d: %q, want %q", f.number, got, f.name)
		}
	}
	for _, fn := range []int{0, -1, 79, 80, -78, -79, math.MinInt, math.MinInt + 1, math.MaxInt - 1, math.MaxInt} {
		if got := Name(fn); got != "" {
			t.Errorf("Name of %d: %q", fn, got)
		}
	}
	for _, fn := range farInts() {
		holdName(t, fn)
	}
}

// P19.1: Fits.

func TestFits(t *testing.T) {
	for _, f := range functions {
		for n := f.least; n <= f.most; n++ {
			if !Fits(f.number, n) {
				t.Errorf("%s has no %d arguments", f.name, n)
			}
		}
		for _, n := range []int{f.least - 1, f.most + 1, -1, -f.least - 1, -f.most - 1, 9, 10, 100, 256 + f.least, 1<<32 + f.least, math.MinInt, math.MinInt + f.least, math.MaxInt} {
			if Fits(f.number, n) {
				t.Errorf("%s has %d arguments", f.name, n)
			}
		}
		if Fits(f.number, 0) != (f.name == "NA") {
			t.Errorf("%s with no argument", f.name)
		}
		for _, n := range farInts() {
			holdFits(t, f.number, n)
		}
	}
}

func TestFitsOfNoFunction(t *testing.T) {
	for _, fn := range farInts() {
		for n := -2; n <= 10; n++ {
			holdFits(t, fn, n)
		}
	}
	for _, fn := range []int{0, -1, 79, math.MinInt, math.MaxInt} {
		for _, n := range farInts() {
			if Fits(fn, n) {
				t.Errorf("%d has %d arguments", fn, n)
			}
		}
	}
}

// P19.2: Kind.

func TestKind(t *testing.T) {
	for _, f := range functions {
		kinds := strings.ReplaceAll(f.kinds, " ", "")
		for i := range f.most {
			if got, want := Kind(f.number, i), kinds[min(i, len(kinds)-1)]; got != want {
				t.Errorf("Kind of %s at %d: %q, want %q", f.name, i, got, want)
			}
		}
		for _, i := range []int{f.most, f.most + 1, -1, -2, -f.most, 8, 9, 256, 1 << 32, math.MinInt, math.MinInt + 1, math.MaxInt - 1, math.MaxInt} {
			if got := Kind(f.number, i); got != 0 {
				t.Errorf("Kind of %s at %d: %q", f.name, i, got)
			}
		}
		for _, i := range farInts() {
			holdKind(t, f.number, i)
		}
	}
}

// TestKindsToldOut tells the kinds of some functions argument by argument, the last kind for further ones too.
func TestKindsToldOut(t *testing.T) {
	for _, c := range []struct {
		name string
		want string
	}{
		{"NA", ""}, {"ABS", "v"}, {"ROW", "n"}, {"CEILING", "vv"}, {"MID", "vvv"}, {"SUBSTITUTE", "vvv"}, {"SUM", "llllllll"}, {"COUNTBLANK", "llllllll"}, {"XOR", "llllllll"},
		{"AND", "eeeeeeee"}, {"OR", "eeeeeeee"}, {"CHOOSE", "eeeeeeee"}, {"SWITCH", "eeeeeeee"}, {"IF", "eee"}, {"IFERROR", "ee"}, {"DECLASS", "et"},
		{"AVERAGEIF", "rv"}, {"COUNTIF", "rv"}, {"SUMIF", "rv"}, {"LARGE", "rv"}, {"SMALL", "rv"}, {"INDEX", "rvv"}, {"MATCH", "vr"}, {"RANK", "vr"}, {"SUMPRODUCT", "rr"}, {"HLOOKUP", "vrv"}, {"VLOOKUP", "vrv"},
	} {
		got := ""
		for i := -10; i <= 20; i++ {
			if k := Kind(Number(c.name), i); k != 0 {
				got += string([]byte{k})
			}
		}
		if got != c.want {
			t.Errorf("the kinds of %s: %s, want %s", c.name, got, c.want)
		}
	}
}

func TestKindOfNoFunction(t *testing.T) {
	for _, fn := range farInts() {
		for i := -2; i <= 10; i++ {
			holdKind(t, fn, i)
		}
	}
	for _, fn := range []int{0, -1, 79, math.MinInt, math.MaxInt} {
		for _, i := range farInts() {
			if got := Kind(fn, i); got != 0 {
				t.Errorf("Kind of %d at %d: %q", fn, i, got)
			}
		}
	}
}

// P19.2: Lazy.

func TestLazy(t *testing.T) {
	lazy := " AND CHOOSE DECLASS IF IFERROR OR SWITCH "
	for _, f := range functions {
		if got, want := Lazy(f.number), strings.Contains(lazy, " "+f.name+" "); got != want {
			t.Errorf("Lazy of %s: %v", f.name, got)
		}
	}
	for _, fn := range farInts() {
		holdLazy(t, fn)
		if _, ok := found(fn); !ok && Lazy(fn) {
			t.Errorf("Lazy of %d", fn)
		}
	}
}

// P19.3: what follows.

func TestWhatFollows(t *testing.T) {
	for a := -20; a <= 120; a++ {
		named := a >= 1 && a <= Last
		if named != (Name(a) != "") || named && Number(Name(a)) != a {
			t.Errorf("%d has the name %q, by which %d is found", a, Name(a), Number(Name(a)))
		}
		for b := -20; b <= 120; b++ {
			if !named || b < 1 || b > Last {
				continue
			}
			// By bytes, so as Go holds texts against one another.
			if (a < b) != (Name(a) < Name(b)) || (a == b) != (Name(a) == Name(b)) {
				t.Errorf("%d has the name %q, and %d the name %q", a, Name(a), b, Name(b))
			}
		}
	}
}

// TestAnswersStay asks for all of it several times over, in rows that differ: what was asked ahead makes no odds.
func TestAnswersStay(t *testing.T) {
	for _, step := range []int{1, 77, 5, 71} {
		for i := range 80 {
			fn := i * step % 80
			holdName(t, fn)
			holdLazy(t, fn)
			holdNumber(t, Name(fn))
			for n := -1; n <= 9; n++ {
				holdFits(t, fn, n)
				holdKind(t, fn, n)
			}
		}
	}
}

// FuzzAll holds all calls against the document's words.
func FuzzAll(f *testing.F) {
	f.Add("SUM", 67, 8)
	f.Add("sum", 0, -1)
	f.Add("SUM\nSUMIF", 79, math.MaxInt)
	f.Add("NA\xff", math.MinInt, 0)
	f.Fuzz(func(t *testing.T, name string, fn, n int) {
		holdNumber(t, name)
		holdNumber(t, strings.ToUpper(name))
		for _, x := range []int{fn, fn % 80, fn & 127} {
			holdName(t, x)
			holdLazy(t, x)
			for _, y := range []int{n, n % 10, n & 15} {
				holdFits(t, x, y)
				holdKind(t, x, y)
			}
		}
	})
}
