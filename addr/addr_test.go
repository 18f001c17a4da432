package addr

import (
	"fmt"
	"math"
	"slices"
	"strings"
	"testing"

	"oculus/api"
)

// rows and cols are how many there are, as the document says it.
const (
	rows = 999
	cols = 702
)

// outside is numbers that are no row and no column; beyond are those that are a row, but no column.
var (
	outside = []int{math.MinInt, math.MinInt + 1, -1 << 32, -1<<32 + 5, -703, -702, -27, -26, -2, -1, 999, 1000, 1001, 18277, 18278, 1 << 32, 1<<32 + 5, math.MaxInt - 1, math.MaxInt}
	beyond  = []int{702, 703, 728, 900, 998}
)

// columns is the letters of all columns, written out as the document says it: all single ones, then all pairs.
func columns() []string {
	abc := "ABCDEFGHIJKLMNOPQRSTUVWXYZ"
	l := strings.Split(abc, "")
	for _, a := range abc {
		for _, b := range abc {
			l = append(l, string(a)+string(b))
		}
	}
	return l
}

// someCells is cells at the edges and between, such as may be and such as may not.
func someCells() []api.Cell {
	n := append([]int{0, 1, 2, 25, 26, 27, 500, 700, 701}, append(slices.Clone(outside), beyond...)...)
	l := []api.Cell{}
	for _, r := range n {
		for _, c := range n {
			l = append(l, api.Cell{Row: r, Col: c})
		}
	}
	return l
}

// P3.1

func TestMay(t *testing.T) {
	for _, x := range []struct {
		c    api.Cell
		want bool
	}{
		{api.Cell{}, true},
		{api.Cell{Row: 998}, true},
		{api.Cell{Col: 701}, true},
		{api.Cell{Row: 998, Col: 701}, true},
		{api.Cell{Row: 701, Col: 700}, true},
		{api.Cell{Row: 999}, false},
		{api.Cell{Col: 702}, false},
		{api.Cell{Row: 701, Col: 998}, false},
		{api.Cell{Row: 999, Col: 702}, false},
		{api.Cell{Row: -1}, false},
		{api.Cell{Col: -1}, false},
		{api.Cell{Row: -1, Col: -1}, false},
	} {
		if May(x.c) != x.want {
			t.Errorf("May(%v)", x.c)
		}
	}
	for _, c := range someCells() {
		want := c.Row >= 0 && c.Row < rows && c.Col >= 0 && c.Col < cols
		if May(c) != want {
			t.Errorf("May(%v): not %v", c, want)
		}
	}
}

func TestLetters(t *testing.T) {
	for _, x := range []struct {
		col  int
		want string
	}{
		{0, "A"}, {1, "B"}, {25, "Z"}, {26, "AA"}, {27, "AB"}, {51, "AZ"}, {52, "BA"}, {77, "BZ"}, {78, "CA"}, {675, "YZ"}, {676, "ZA"}, {700, "ZY"}, {701, "ZZ"},
	} {
		if got := Letters(x.col); got != x.want {
			t.Errorf("Letters(%d): %q", x.col, got)
		}
	}
	for _, col := range append(slices.Clone(outside), beyond...) {
		if got := Letters(col); got != "" {
			t.Errorf("Letters(%d): %q", col, got)
		}
	}
}

func TestLettersAndColumnOfAll(t *testing.T) {
	all := columns()
	if len(all) != cols {
		t.Fatalf("%d columns", len(all))
	}
	for col, w := range all {
		if got := Letters(col); got != w {
			t.Errorf("Letters(%d): %q", col, got)
		}
		if got, ok := Column(w); !ok || got != col {
			t.Errorf("Column(%q): %d, %v", w, got, ok)
		}
	}
}

func TestColumnOfNoLetters(t *testing.T) {
	for _, w := range []string{
		"", "AAA", "AAB", "AZZ", "ZZA", "ZZZ", "AAAA", "ZZZZZZZ", // no column, or too great a one
		"a", "z", "aa", "Aa", "aA", "zz", "Az", // small letters
		" ", " A", "A ", "A B", "\tA", "A\n", "AA ", " AA", // blanks
		"@", "[", "A@", "A[", "@A", "[A", "`", "{", "Z[", "Z@", // beside the letters
		"0", "1", "A1", "1A", "A0", "$", "$A", "A$", "-", "-A", "A:B", "A,B", "#REF", "\x00", "A\x00", "\x00A",
		"\u00c4", "\u0410", "\u0391", "\uff21", "\u212a", "\xff", "A\xff", "\xc1", "\xc1\x81",
		strings.Repeat("A", 13), strings.Repeat("A", 14), strings.Repeat("Z", 100000), strings.Repeat("A", 100000), strings.Repeat("@", 100000),
	} {
		if got, ok := Column(w); ok || got != 0 {
			t.Errorf("Column(%.40q): %d, %v", w, got, ok)
		}
	}
}

// TestColumnOfAllShortTexts holds Column against all texts of at most two bytes, whatever bytes, and of three letters.
func TestColumnOfAllShortTexts(t *testing.T) {
	all := map[string]int{}
	for col, w := range columns() {
		all[w] = col
	}
	check := func(w string) {
		want, may := all[w]
		if got, ok := Column(w); ok != may || got != want {
			t.Errorf("Column(%q): %d, %v", w, got, ok)
		}
	}
	check("")
	for a := range 256 {
		check(string([]byte{byte(a)}))
		for b := range 256 {
			check(string([]byte{byte(a), byte(b)}))
		}
	}
	for a := 'A'; a <= 'Z'; a++ {
		for _, w := range columns()[26:] {
			check(string(a) + w)
		}
	}
}

func TestNumber(t *testing.T) {
	for row := range rows {
		w := fmt.Sprint(row + 1)
		if got, ok := Number(w); !ok || got != row {
			t.Errorf("Number(%q): %d, %v", w, got, ok)
		}
	}
}

func TestNumberOfNoNumber(t *testing.T) {
	for _, w := range []string{
		"", "0", "00", "000", "01", "001", "0001", "010", "0999", "00000000000000000000000000001", // nought, and noughts ahead
		"1000", "1001", "9999", "1000000", "4294967296", "4294967297", "9223372036854775807", "9223372036854775808", "18446744073709551616", "18446744073709551617", // too great
		"+1", "-1", "-0", "+0", "-999", "+999", "--1", "1-", "1+", "-9223372036854775808", "-9223372036854775809", // signs
		" ", " 1", "1 ", "1 2", "\t1", "1\n", "\n", // blanks
		"1.0", "1.", ".1", "1e1", "1_0", "0x1", "0b1", "0o1", "1,2", "1:2", "$1", "1$", "A", "A1", "1A", "a", "/", ":", "1/", "1:",
		"\u0663", "\uff11", "1\x00", "\x00", "\x001", "\xff", "1\xff",
		strings.Repeat("1", 100000), strings.Repeat("0", 100000) + "1", strings.Repeat("-", 100000), strings.Repeat(" ", 100000) + "1",
	} {
		if got, ok := Number(w); ok || got != 0 {
			t.Errorf("Number(%.40q): %d, %v", w, got, ok)
		}
	}
}

// TestNumberOfAllShortTexts holds Number against all texts of at most four bytes that these bytes make.
func TestNumberOfAllShortTexts(t *testing.T) {
	all := map[string]int{}
	for row := range rows {
		all[fmt.Sprint(row+1)] = row
	}
	eachText("0123456789+-_. /:$A", 4, func(w string) {
		want, may := all[w]
		if got, ok := Number(w); ok != may || got != want {
			t.Errorf("Number(%q): %d, %v", w, got, ok)
		}
	})
}

// eachText hands on all texts of at most so many of these bytes.
func eachText(bytes string, most int, each func(string)) {
	var from func(w string)
	from = func(w string) {
		each(w)
		if len(w) < most {
			for i := range len(bytes) {
				from(w + bytes[i:i+1])
			}
		}
	}
	from("")
}

// P3.2

func TestNameAndParse(t *testing.T) {
	for _, x := range []struct {
		c    api.Cell
		want string
	}{
		{api.Cell{}, "A1"},
		{api.Cell{Row: 11, Col: 27}, "AB12"},
		{api.Cell{Row: 8, Col: 25}, "Z9"},
		{api.Cell{Row: 9, Col: 26}, "AA10"},
		{api.Cell{Row: 98, Col: 51}, "AZ99"},
		{api.Cell{Row: 99, Col: 52}, "BA100"},
		{api.Cell{Row: 998}, "A999"},
		{api.Cell{Col: 701}, "ZZ1"},
		{api.Cell{Row: 998, Col: 701}, "ZZ999"},
		{api.Cell{Row: 701, Col: 700}, "ZY702"},
	} {
		if got := Name(x.c); got != x.want {
			t.Errorf("Name(%v): %q", x.c, got)
		}
		if got, ok := Parse(x.want); !ok || got != x.c {
			t.Errorf("Parse(%q): %v, %v", x.want, got, ok)
		}
	}
}

func TestNameOfWhatMayNotBe(t *testing.T) {
	n := 0
	for _, c := range someCells() {
		if c.Row >= 0 && c.Row < rows && c.Col >= 0 && c.Col < cols {
			continue
		}
		n++
		if got := Name(c); got != "" {
			t.Errorf("Name(%v): %q", c, got)
		}
	}
	if n == 0 {
		t.Error("no cell was held against the promise")
	}
}

func TestParseOfNoName(t *testing.T) {
	for _, w := range []string{
		"", "A", "ZZ", "1", "999", "1A", "1A1", "12AB", // one half alone, or the halves the other way round
		"A0", "A00", "A01", "A001", "AB012", "A000000000000000000000001", // noughts
		"A1000", "ZZ1000", "A4294967297", "A9223372036854775808", "A18446744073709551617", // no row
		"AAA1", "ZZZ999", "AAAA1", // no column
		"a1", "ab12", "Ab12", "aB12", "zz999", // small letters
		"A+1", "A-1", "A--1", "-A1", "+A1", "A1-", "A1+", "A-0", // signs
		" A1", "A1 ", "A 1", " ", "\tA1", "A1\n", "A\n1", // blanks
		"$A1", "A$1", "$A$1", "A1:A1", "A1:B2", "A1,B2", "A1B", "A1B2", "A1A1", "A1.", "A1.0", "A.1", "A1e1", "A0x1", "A1_0", "#REF", "@1", "[1", "A@1", "R1C1", "A/1", "A1/",
		"\u00c41", "\uff211", "\u04101", "A\uff11", "A\u0663", "A\x001", "\x00A1", "A1\x00", "\xffA1", "A1\xff", "A\xff1",
		strings.Repeat("A", 100000) + "1", "A" + strings.Repeat("1", 100000), "A" + strings.Repeat("0", 100000) + "1", strings.Repeat("A1", 100000), strings.Repeat(" ", 100000) + "A1",
	} {
		if got, ok := Parse(w); ok || got != (api.Cell{}) {
			t.Errorf("Parse(%.40q): %v, %v", w, got, ok)
		}
	}
}

// TestOnlyNamesAreRead holds Parse against all texts of at most five bytes that these bytes make.
func TestOnlyNamesAreRead(t *testing.T) {
	names := map[string]api.Cell{}
	for col, w := range columns() {
		if strings.Trim(w, "AZ") != "" {
			continue
		}
		for row := range rows {
			n := fmt.Sprintf("%s%d", w, row+1)
			if strings.Trim(n, "AZ019") == "" {
				names[n] = api.Cell{Row: row, Col: col}
			}
		}
	}
	read := 0
	eachText("AZa019$:+- ", 5, func(w string) {
		want, may := names[w]
		if got, ok := Parse(w); ok != may || got != want {
			t.Errorf("Parse(%q): %v, %v", w, got, ok)
		}
		if may {
			read++
		}
	})
	if read != len(names) || read != 6*26 {
		t.Errorf("%d names are read, of %d", read, len(names))
	}
}

func FuzzParse(f *testing.F) {
	for _, w := range []string{"", "A1", "AB12", "ZZ999", "AAA1", "A1000", "A01", "a1", "A+1", "$A$1", "A1:B2"} {
		f.Add(w)
	}
	f.Fuzz(func(t *testing.T, w string) {
		c, ok := Parse(w)
		if ok && (!May(c) || Name(c) != w) || !ok && c != (api.Cell{}) {
			t.Errorf("Parse(%q): %v, %v", w, c, ok)
		}
		col, ok := Column(w)
		if ok && Letters(col) != w || !ok && col != 0 {
			t.Errorf("Column(%q): %d, %v", w, col, ok)
		}
		row, ok := Number(w)
		if ok && (row < 0 || row >= rows || fmt.Sprint(row+1) != w) || !ok && row != 0 {
			t.Errorf("Number(%q): %d, %v", w, row, ok)
		}
	})
}

// P3.3

func TestLess(t *testing.T) {
	for _, x := range []struct {
		a, b api.Cell
		want bool
	}{
		{api.Cell{}, api.Cell{}, false},
		{api.Cell{}, api.Cell{Col: 1}, true},
		{api.Cell{Col: 1}, api.Cell{}, false},
		{api.Cell{}, api.Cell{Row: 1}, true},
		{api.Cell{Row: 1}, api.Cell{}, false},
		{api.Cell{Row: 1, Col: 5}, api.Cell{Row: 2, Col: 3}, true}, // the row counts ahead of the column
		{api.Cell{Row: 2, Col: 3}, api.Cell{Row: 1, Col: 5}, false},
		{api.Cell{Row: 998, Col: 701}, api.Cell{Row: 998, Col: 701}, false},
		{api.Cell{Row: 998, Col: 700}, api.Cell{Row: 998, Col: 701}, true},
		{api.Cell{Row: 0, Col: 701}, api.Cell{Row: 1, Col: 0}, true},
		{api.Cell{Row: -1, Col: 5}, api.Cell{}, true}, // such as may not be stand in the row, too
		{api.Cell{Row: math.MinInt}, api.Cell{Row: math.MaxInt}, true},
		{api.Cell{Row: math.MaxInt}, api.Cell{Row: math.MinInt}, false},
		{api.Cell{Col: math.MinInt}, api.Cell{Col: math.MaxInt}, true},
		{api.Cell{Col: math.MaxInt}, api.Cell{Col: math.MinInt}, false},
	} {
		if Less(x.a, x.b) != x.want {
			t.Errorf("Less(%v, %v)", x.a, x.b)
		}
	}
}

func TestLessOfAnyCells(t *testing.T) {
	l := someCells()
	for _, a := range l {
		for _, b := range l {
			want := a.Row < b.Row || a.Row == b.Row && a.Col < b.Col
			if Less(a, b) != want {
				t.Fatalf("Less(%v, %v): not %v", a, b, want)
			}
		}
	}
}

// P3.4

// TestAllCells goes through all cells that may be, in their row: each has a name of its own, by which it is found again, and stands ahead of the next one.
func TestAllCells(t *testing.T) {
	named := make(map[string]api.Cell, rows*cols)
	letters := columns()
	last := api.Cell{Row: -1, Col: 0}
	for row := range rows {
		for col := range cols {
			c := api.Cell{Row: row, Col: col}
			w := Name(c)
			if w != fmt.Sprint(letters[col], row+1) {
				t.Fatalf("Name(%v): %q", c, w)
			}
			if got, ok := Parse(w); !ok || got != c {
				t.Fatalf("Parse(%q): %v, %v", w, got, ok)
			}
			if !Less(last, c) || Less(c, last) {
				t.Fatalf("%v stands behind %v", last, c)
			}
			named[w] = c
			last = c
		}
	}
	if len(named) != rows*cols {
		t.Errorf("%d names", len(named))
	}
}

// TestCellsStandInOneRow holds the order against its laws: of two unlike cells just one is ahead, and what is ahead of the next is ahead of all behind.
func TestCellsStandInOneRow(t *testing.T) {
	l := []api.Cell{}
	for _, r := range []int{math.MinInt, -1, 0, 1, 998, 999, math.MaxInt} {
		for _, c := range []int{math.MinInt, -1, 0, 1, 701, 702, math.MaxInt} {
			l = append(l, api.Cell{Row: r, Col: c})
		}
	}
	for _, a := range l {
		for _, b := range l {
			if (a == b) == (Less(a, b) || Less(b, a)) || Less(a, b) && Less(b, a) {
				t.Fatalf("%v and %v", a, b)
			}
			for _, c := range l {
				if Less(a, b) && Less(b, c) && !Less(a, c) {
					t.Fatalf("%v, %v and %v", a, b, c)
				}
			}
		}
	}
}
