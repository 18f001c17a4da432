package span

import (
	"fmt"
	"math"
	"slices"
	"strings"
	"testing"

	"oculus/addr"
	"oculus/api"
)

// rows and cols are how many there are, as the document says it.
const (
	rows = 999
	cols = 702
)

// whole is the span of all cells that may be.
var whole = api.Span{To: api.Cell{Row: rows - 1, Col: cols - 1}}

// spanOf is the span from one row and column to others.
func spanOf(row, col, toRow, toCol int) api.Span {
	return api.Span{From: api.Cell{Row: row, Col: col}, To: api.Cell{Row: toRow, Col: toCol}}
}

// mayBe is the document's word on cells.
func mayBe(c api.Cell) bool { return c.Row >= 0 && c.Row < rows && c.Col >= 0 && c.Col < cols }

// between tells whether a number is between two others, whichever is the greater one.
func between(n, a, b int) bool { return a <= n && n <= b || b <= n && n <= a }

// isIn is the document's word on which cells a span has.
func isIn(s api.Span, c api.Cell) bool {
	return between(c.Row, s.From.Row, s.To.Row) && between(c.Col, s.From.Col, s.To.Col)
}

// isStraight is the document's word on spans that are straight.
func isStraight(s api.Span) bool { return s.From.Row <= s.To.Row && s.From.Col <= s.To.Col }

// block is so many rows and columns of cells, row by row.
func block(row, col, rows, cols int) []api.Cell {
	l := []api.Cell{}
	for r := range rows {
		for c := range cols {
			l = append(l, api.Cell{Row: row + r, Col: col + c})
		}
	}
	return l
}

// spansOf is all spans whose corners are of these cells.
func spansOf(l []api.Cell) []api.Span {
	spans := []api.Span{}
	for _, a := range l {
		for _, b := range l {
			spans = append(spans, api.Span{From: a, To: b})
		}
	}
	return spans
}

// blocks is blocks of cells by all the four corners of what may be, and one in its midst.
func blocks() [][]api.Cell {
	return [][]api.Cell{block(0, 0, 4, 4), block(0, cols-4, 4, 4), block(rows-4, 0, 4, 4), block(rows-4, cols-4, 4, 4), block(500, 300, 4, 4)}
}

// around is the cells of a block, and those that stand about it, such as may not be among them.
func around(l []api.Cell) []api.Cell { return block(l[0].Row-2, l[0].Col-2, 8, 8) }

// wrongCells is cells that may not be.
func wrongCells() []api.Cell {
	l := []api.Cell{}
	n := []int{math.MinInt, math.MinInt + 1, -1 << 32, -2, -1, 0, 1, 701, 702, 703, 998, 999, 1000, 1 << 32, math.MaxInt - 1, math.MaxInt}
	for _, row := range n {
		for _, col := range n {
			if c := (api.Cell{Row: row, Col: col}); !mayBe(c) {
				l = append(l, c)
			}
		}
	}
	return l
}

// wrongSpans is spans that may not be, for their one corner, the other one, or both.
func wrongSpans() []api.Span {
	l := []api.Span{}
	wrong := wrongCells()
	for i, w := range wrong {
		for _, c := range []api.Cell{{}, {Row: 5, Col: 7}, whole.To} {
			l = append(l, api.Span{From: w, To: c}, api.Span{From: c, To: w})
		}
		l = append(l, api.Span{From: w, To: w}, api.Span{From: w, To: wrong[len(wrong)-1-i]})
	}
	return l
}

// went is the cells that All goes through, of the first so many.
func went(s api.Span, most int) []api.Cell {
	l := []api.Cell{}
	for c := range All(s) {
		if l = append(l, c); len(l) == most {
			break
		}
	}
	return l
}

// P4.1

func TestMay(t *testing.T) {
	for _, x := range []struct {
		s    api.Span
		want bool
	}{
		{api.Span{}, true},
		{whole, true},
		{spanOf(998, 701, 0, 0), true},
		{spanOf(998, 701, 998, 701), true},
		{spanOf(0, 701, 998, 0), true},
		{spanOf(999, 0, 0, 0), false},
		{spanOf(0, 702, 0, 0), false},
		{spanOf(0, 0, 999, 0), false},
		{spanOf(0, 0, 0, 702), false},
		{spanOf(-1, 0, 0, 0), false},
		{spanOf(0, -1, 0, 0), false},
		{spanOf(0, 0, -1, 0), false},
		{spanOf(0, 0, 0, -1), false},
		{spanOf(-1, -1, 999, 702), false},
		{spanOf(math.MinInt, math.MinInt, math.MaxInt, math.MaxInt), false},
	} {
		if May(x.s) != x.want {
			t.Errorf("May(%v)", x.s)
		}
	}
	for _, l := range blocks() {
		for _, s := range spansOf(around(l)) {
			if want := mayBe(s.From) && mayBe(s.To); May(s) != want {
				t.Fatalf("May(%v): not %v", s, want)
			}
		}
	}
}

func TestStraight(t *testing.T) {
	for _, x := range []struct{ s, want api.Span }{
		{api.Span{}, api.Span{}},
		{spanOf(3, 4, 3, 4), spanOf(3, 4, 3, 4)},
		{spanOf(1, 2, 3, 4), spanOf(1, 2, 3, 4)},
		{spanOf(3, 4, 1, 2), spanOf(1, 2, 3, 4)},
		{spanOf(3, 2, 1, 4), spanOf(1, 2, 3, 4)},
		{spanOf(1, 4, 3, 2), spanOf(1, 2, 3, 4)},
		{spanOf(7, 9, 7, 2), spanOf(7, 2, 7, 9)},
		{spanOf(9, 7, 2, 7), spanOf(2, 7, 9, 7)},
		{spanOf(998, 701, 0, 0), whole},
		{spanOf(998, 0, 0, 701), whole},
	} {
		if got := Straight(x.s); got != x.want {
			t.Errorf("Straight(%v): %v", x.s, got)
		}
	}
	for _, l := range blocks() {
		for _, s := range spansOf(l) {
			got := Straight(s)
			if !isStraight(got) || !isIn(s, got.From) || !isIn(s, got.To) {
				t.Fatalf("Straight(%v): %v", s, got)
			}
			for _, c := range around(l) {
				if isIn(got, c) != isIn(s, c) {
					t.Fatalf("Straight(%v): %v, and %v", s, got, c)
				}
			}
		}
	}
}

func TestHas(t *testing.T) {
	for _, x := range []struct {
		s    api.Span
		c    api.Cell
		want bool
	}{
		{api.Span{}, api.Cell{}, true},
		{api.Span{}, api.Cell{Row: 1}, false},
		{api.Span{}, api.Cell{Col: 1}, false},
		{spanOf(1, 2, 3, 4), api.Cell{Row: 2, Col: 3}, true},
		{spanOf(3, 4, 1, 2), api.Cell{Row: 1, Col: 2}, true},
		{spanOf(3, 2, 1, 4), api.Cell{Row: 3, Col: 4}, true},
		{spanOf(3, 2, 1, 4), api.Cell{Row: 3, Col: 5}, false},
		{spanOf(0, 600, 0, 2), api.Cell{Row: 0, Col: 600}, true},
		{spanOf(0, 5, 9, 0), api.Cell{Row: 7, Col: 6}, false}, // rows are no columns
		{spanOf(0, 5, 9, 0), api.Cell{Row: 6, Col: 3}, true},
		{whole, api.Cell{Row: 998, Col: 701}, true},
		{whole, api.Cell{Row: 999, Col: 701}, false},
		{whole, api.Cell{Row: 998, Col: 702}, false},
		{whole, api.Cell{Row: -1}, false},
		{whole, api.Cell{Col: -1}, false},
	} {
		if Has(x.s, x.c) != x.want {
			t.Errorf("Has(%v, %v)", x.s, x.c)
		}
	}
	for _, l := range blocks() {
		for _, s := range spansOf(l) {
			for _, c := range around(l) {
				if want := isIn(s, c); Has(s, c) != want {
					t.Fatalf("Has(%v, %v): not %v", s, c, want)
				}
			}
			for _, c := range wrongCells() {
				if Has(s, c) {
					t.Fatalf("Has(%v, %v)", s, c)
				}
			}
		}
	}
}

func TestRowsColsSize(t *testing.T) {
	for _, x := range []struct {
		s          api.Span
		rows, cols int
	}{
		{api.Span{}, 1, 1},
		{spanOf(998, 701, 998, 701), 1, 1},
		{spanOf(0, 0, 0, 1), 1, 2},
		{spanOf(0, 1, 0, 0), 1, 2},
		{spanOf(0, 0, 1, 0), 2, 1},
		{spanOf(1, 0, 0, 0), 2, 1},
		{spanOf(9, 3, 2, 7), 8, 5},
		{spanOf(2, 7, 9, 3), 8, 5},
		{spanOf(0, 0, 998, 0), 999, 1},
		{spanOf(0, 701, 0, 0), 1, 702},
		{whole, 999, 702},
		{spanOf(998, 0, 0, 701), 999, 702},
	} {
		if Rows(x.s) != x.rows || Cols(x.s) != x.cols || Size(x.s) != x.rows*x.cols {
			t.Errorf("%v: %d rows, %d columns, %d cells", x.s, Rows(x.s), Cols(x.s), Size(x.s))
		}
	}
}

func TestWhatMayNotBeHasNothing(t *testing.T) {
	for _, s := range wrongSpans() {
		if May(s) || Straight(s) != (api.Span{}) || Rows(s) != 0 || Cols(s) != 0 || Size(s) != 0 {
			t.Errorf("%v: %v, %v, %d, %d, %d", s, May(s), Straight(s), Rows(s), Cols(s), Size(s))
		}
		for _, c := range []api.Cell{{}, {Row: 3, Col: 3}, s.From, s.To} {
			if Has(s, c) {
				t.Errorf("Has(%v, %v)", s, c)
			}
		}
	}
}

// P4.2

func TestAllAndCells(t *testing.T) {
	for _, x := range []struct {
		s    api.Span
		want []api.Cell
	}{
		{api.Span{}, []api.Cell{{}}},
		{spanOf(998, 701, 998, 701), []api.Cell{{Row: 998, Col: 701}}},
		{spanOf(1, 2, 2, 4), []api.Cell{{Row: 1, Col: 2}, {Row: 1, Col: 3}, {Row: 1, Col: 4}, {Row: 2, Col: 2}, {Row: 2, Col: 3}, {Row: 2, Col: 4}}},
		{spanOf(2, 4, 1, 2), []api.Cell{{Row: 1, Col: 2}, {Row: 1, Col: 3}, {Row: 1, Col: 4}, {Row: 2, Col: 2}, {Row: 2, Col: 3}, {Row: 2, Col: 4}}},
		{spanOf(2, 2, 1, 4), []api.Cell{{Row: 1, Col: 2}, {Row: 1, Col: 3}, {Row: 1, Col: 4}, {Row: 2, Col: 2}, {Row: 2, Col: 3}, {Row: 2, Col: 4}}},
		{spanOf(0, 9, 0, 7), []api.Cell{{Col: 7}, {Col: 8}, {Col: 9}}},
		{spanOf(9, 0, 7, 0), []api.Cell{{Row: 7}, {Row: 8}, {Row: 9}}},
	} {
		if got := went(x.s, -1); !slices.Equal(got, x.want) {
			t.Errorf("All(%v): %v", x.s, got)
		}
		if got := Cells(x.s); !slices.Equal(got, x.want) {
			t.Errorf("Cells(%v): %v", x.s, got)
		}
	}
	for _, l := range blocks() {
		for _, s := range spansOf(l) {
			want := slices.DeleteFunc(slices.Clone(l), func(c api.Cell) bool { return !isIn(s, c) })
			if got := went(s, -1); !slices.Equal(got, want) {
				t.Fatalf("All(%v): %v", s, got)
			}
			if got := Cells(s); !slices.Equal(got, want) {
				t.Fatalf("Cells(%v): %v", s, got)
			}
		}
	}
}

func TestCellsOfNotTooMany(t *testing.T) {
	for _, x := range []struct {
		rows, cols int
		told       bool
	}{
		{10, 100, true}, {2, 500, true}, {500, 2, true}, {25, 40, true}, {999, 1, true}, {1, 702, true}, {27, 37, true},
		{7, 143, false}, {13, 77, false}, {91, 11, false}, {334, 3, false}, {2, 501, false}, {501, 2, false}, {999, 2, false}, {2, 702, false}, {999, 702, false},
	} {
		for _, s := range []api.Span{spanOf(0, 0, x.rows-1, x.cols-1), spanOf(x.rows-1, 0, 0, x.cols-1), spanOf(998, 701, 999-x.rows, 702-x.cols)} {
			want := []api.Cell{}
			if x.told {
				want = block(min(s.From.Row, s.To.Row), min(s.From.Col, s.To.Col), x.rows, x.cols)
			}
			if got := Cells(s); !slices.Equal(got, want) {
				t.Errorf("Cells(%v): %d cells", s, len(got))
			}
		}
	}
}

func TestCellsAreNewEachTime(t *testing.T) {
	s := spanOf(3, 3, 1, 1)
	a, b := Cells(s), Cells(s)
	for i := range a {
		a[i] = api.Cell{Row: 77, Col: 77}
	}
	_ = append(a, api.Cell{Row: 78})
	if want := block(1, 1, 3, 3); !slices.Equal(b, want) || !slices.Equal(Cells(s), want) {
		t.Errorf("Cells: %v, and then %v", b, Cells(s))
	}
}

func TestAllOfTheWhole(t *testing.T) {
	i := 0
	for c := range All(spanOf(998, 0, 0, 701)) {
		if want := (api.Cell{Row: i / cols, Col: i % cols}); c != want {
			t.Fatalf("the cell %d: %v", i, c)
		}
		i++
	}
	if i != rows*cols {
		t.Errorf("%d cells", i)
	}
}

func TestAllMayBeLeft(t *testing.T) {
	s := spanOf(4, 6, 2, 3)
	want := block(2, 3, 3, 4)
	for most := 1; most <= len(want); most++ {
		if got := went(s, most); !slices.Equal(got, want[:most]) {
			t.Errorf("the first %d: %v", most, got)
		}
	}
	if got := went(whole, 1000); len(got) != 1000 {
		t.Errorf("of the whole %d cells", len(got))
	}
}

// TestAllIsGoneThroughAnew goes through what All told once, again, and within itself: what is gone through keeps nothing.
func TestAllIsGoneThroughAnew(t *testing.T) {
	s := spanOf(2, 3, 1, 1)
	want := block(1, 1, 2, 3)
	all := All(s)
	for range all {
		break
	}
	outer := []api.Cell{}
	for a := range all {
		inner := []api.Cell{}
		for b := range all {
			inner = append(inner, b)
		}
		if !slices.Equal(inner, want) {
			t.Errorf("within: %v", inner)
		}
		outer = append(outer, a)
	}
	if !slices.Equal(outer, want) {
		t.Errorf("again: %v", outer)
	}
}

func TestWhatMayNotBeHasNoCells(t *testing.T) {
	for _, s := range wrongSpans() {
		all := All(s)
		if all == nil {
			t.Fatalf("All(%v): nil", s)
		}
		for c := range all {
			t.Fatalf("All(%v): %v", s, c)
		}
		if got := Cells(s); len(got) != 0 {
			t.Fatalf("Cells(%v): %v", s, got)
		}
	}
}

// P4.3

func TestMeetAndWithin(t *testing.T) {
	none := api.Span{}
	for _, x := range []struct {
		a, b, meet api.Span
		ok, within bool
	}{
		{none, none, none, true, true},
		{none, whole, none, true, true},
		{whole, none, none, true, false},
		{whole, spanOf(998, 701, 0, 0), whole, true, true},
		{spanOf(0, 0, 3, 3), spanOf(2, 1, 5, 2), spanOf(2, 1, 3, 2), true, false},
		{spanOf(3, 0, 0, 3), spanOf(5, 2, 2, 1), spanOf(2, 1, 3, 2), true, false}, // turned about
		{spanOf(1, 4, 3, 2), spanOf(3, 2, 1, 4), spanOf(1, 2, 3, 4), true, true},
		{spanOf(2, 3, 1, 2), spanOf(9, 0, 0, 9), spanOf(1, 2, 2, 3), true, true},
		{spanOf(9, 0, 0, 9), spanOf(2, 3, 1, 2), spanOf(1, 2, 2, 3), true, false},
		{spanOf(0, 0, 1, 1), spanOf(0, 2, 1, 3), none, false, false}, // side by side
		{spanOf(0, 2, 1, 3), spanOf(0, 0, 1, 1), none, false, false},
		{spanOf(0, 0, 1, 1), spanOf(2, 0, 3, 1), none, false, false}, // one below the other
		{spanOf(2, 0, 3, 1), spanOf(0, 0, 1, 1), none, false, false},
		{spanOf(0, 0, 1, 1), spanOf(2, 2, 3, 3), none, false, false}, // corner by corner
		{spanOf(0, 0, 1, 1), spanOf(1, 1, 2, 2), spanOf(1, 1, 1, 1), true, false},
		{spanOf(5, 0, 5, 9), spanOf(0, 5, 9, 5), spanOf(5, 5, 5, 5), true, false}, // across
		{spanOf(5, 5, 5, 5), spanOf(5, 5, 5, 5), spanOf(5, 5, 5, 5), true, true},
		{spanOf(5, 5, 5, 5), spanOf(5, 6, 5, 6), none, false, false},
		{spanOf(0, 0, 998, 0), spanOf(0, 701, 998, 701), none, false, false},
		{spanOf(1, 1, 2, 2), spanOf(1, 1, 2, 3), spanOf(1, 1, 2, 2), true, true},
		{spanOf(1, 1, 2, 2), spanOf(2, 1, 2, 2), spanOf(2, 1, 2, 2), true, false},
		{spanOf(998, 701, 998, 701), whole, spanOf(998, 701, 998, 701), true, true},
	} {
		if got, ok := Meet(x.a, x.b); got != x.meet || ok != x.ok {
			t.Errorf("Meet(%v, %v): %v, %v", x.a, x.b, got, ok)
		}
		if Within(x.a, x.b) != x.within {
			t.Errorf("Within(%v, %v)", x.a, x.b)
		}
	}
}

func TestWhatMayNotBeMeetsNothing(t *testing.T) {
	wrong := wrongSpans()
	for i, w := range wrong {
		for _, s := range []api.Span{{}, whole, spanOf(5, 7, 5, 7), spanOf(9, 0, 0, 9), w, wrong[len(wrong)-1-i]} {
			for _, pair := range [][2]api.Span{{w, s}, {s, w}} {
				if got, ok := Meet(pair[0], pair[1]); ok || got != (api.Span{}) {
					t.Errorf("Meet(%v, %v): %v, %v", pair[0], pair[1], got, ok)
				}
				if Within(pair[0], pair[1]) {
					t.Errorf("Within(%v, %v)", pair[0], pair[1])
				}
			}
		}
	}
}

// P4.4

func TestTextAndParse(t *testing.T) {
	for _, x := range []struct {
		s    api.Span
		want string
	}{
		{api.Span{}, "A1"},
		{spanOf(998, 701, 998, 701), "ZZ999"},
		{spanOf(11, 27, 11, 27), "AB12"},
		{spanOf(0, 0, 0, 1), "A1:B1"},
		{spanOf(0, 1, 0, 0), "B1:A1"}, // as it stands
		{spanOf(0, 0, 1, 0), "A1:A2"},
		{spanOf(1, 0, 0, 0), "A2:A1"},
		{spanOf(1, 1, 0, 0), "B2:A1"},
		{spanOf(1, 0, 0, 1), "A2:B1"},
		{spanOf(0, 1, 1, 0), "B1:A2"},
		{whole, "A1:ZZ999"},
		{spanOf(998, 701, 0, 0), "ZZ999:A1"},
		{spanOf(9, 25, 99, 26), "Z10:AA100"},
	} {
		if got := Text(x.s); got != x.want {
			t.Errorf("Text(%v): %q", x.s, got)
		}
		if got, ok := Parse(x.want); !ok || got != x.s {
			t.Errorf("Parse(%q): %v, %v", x.want, got, ok)
		}
	}
}

func TestTextOfWhatMayNotBe(t *testing.T) {
	for _, s := range wrongSpans() {
		if got := Text(s); got != "" {
			t.Errorf("Text(%v): %q", s, got)
		}
	}
}

func TestParseOfNoSpan(t *testing.T) {
	for _, w := range []string{
		"", ":", "::", "A1:", ":A1", "A1::", "::A1", "A1::B2", ":A1:B2", "A1:B2:", "A1:B2:C3", "A1:B2:A1", // halves that are missing, or too many
		"A1:A1", "ZZ999:ZZ999", "AB12:AB12", "A1:A1:A1", // one cell, told twice
		"A", "A:B", "1", "1:2", "A:A", "1:1", "A1:B", "A1:2", "A:B2", "1:B2", // no names
		"A0", "A0:B2", "A1:B0", "A01", "A01:B2", "A1:B02", "A01:A1", "A1:A01", "A+1:B2", "A1:B-2", "A1000:B2", "A1:B1000", "AAA1:B2", "A1:AAA2",
		"a1", "a1:B2", "A1:b2", "a1:b2", "A1:a1", // small letters
		" A1", "A1 ", "A1 :B2", "A1: B2", " A1:B2", "A1:B2 ", "A1 B2", " ", "A1:B2\n", "\tA1:B2", // blanks
		"$A1", "$A$1:$B$2", "A$1:B2", "A1:$B2", "A1,B2", "A1;B2", "A1..B2", "A1-B2", "A1\uff1aB2", "A1\u2236B2", "A1:B2)", "(A1:B2)", "#REF", "A1:#REF", "R1C1:R2C2",
		"A1\x00:B2", "A1:\x00B2", "A1:B2\x00", "\xffA1:B2", "A1:B2\xff", "A1\xff:B2", "\u0410" + "1:B2", "A\u0661:B2",
		strings.Repeat(":", 100000), strings.Repeat("A1:", 100000), strings.Repeat("A", 100000) + "1:B2", "A1:B" + strings.Repeat("1", 100000), "A1:" + strings.Repeat("B", 100000) + "2", "A1:B2" + strings.Repeat(" ", 100000),
	} {
		if got, ok := Parse(w); ok || got != (api.Span{}) {
			t.Errorf("Parse(%.40q): %v, %v", w, got, ok)
		}
	}
}

// TestOnlySpansAreRead holds Parse against all texts of at most seven bytes that these bytes make.
func TestOnlySpansAreRead(t *testing.T) {
	const most, bytes = 7, "AZ10:a "
	named := map[string]api.Cell{}
	for _, l := range []string{"A", "Z", "AA", "AZ", "ZA", "ZZ"} {
		for row := range rows {
			n := fmt.Sprint(l, row+1)
			if c, ok := addr.Parse(n); ok && strings.Trim(n, bytes) == "" {
				named[n] = c
			}
		}
	}
	spans := map[string]api.Span{}
	for a, from := range named {
		spans[a] = api.Span{From: from, To: from}
		for b, to := range named {
			if w := a + ":" + b; a != b && len(w) <= most {
				spans[w] = api.Span{From: from, To: to}
			}
		}
	}
	read := 0
	eachText(bytes, most, func(w string) {
		want, may := spans[w]
		if got, ok := Parse(w); ok != may || got != want {
			t.Errorf("Parse(%q): %v, %v", w, got, ok)
		}
		if may {
			read++
		}
	})
	if read != len(spans) || len(named) != 6*7 || len(spans) != 42+154 {
		t.Errorf("%d spans are read, of %d, of %d cells", read, len(spans), len(named))
	}
}

// eachText hands on all texts of at most so many of these bytes.
func eachText(bytes string, most int, each func(string)) {
	var from func(w string)
	from = func(w string) {
		each(w)
		if len(w) < most {
			for i := range len(bytes) {
				from(w + bytes[i:i+1])
			}
		}
	}
	from("")
}

func FuzzParse(f *testing.F) {
	for _, w := range []string{"", ":", "A1", "A1:A1", "A1:B2", "B2:A1", "ZZ999:A1", "AAA1:B2", "A1:B1000", "A01:B2", "a1:B2", "$A$1:B2", "A1:B2:C3"} {
		f.Add(w)
	}
	f.Fuzz(func(t *testing.T, w string) {
		s, ok := Parse(w)
		if ok && (!May(s) || Text(s) != w) || !ok && s != (api.Span{}) {
			t.Errorf("Parse(%q): %v, %v", w, s, ok)
		}
	})
}

// P4.5

// TestMeetingHasJustTheCellsOfBoth holds all pairs of spans in small blocks against their cells.
func TestMeetingHasJustTheCellsOfBoth(t *testing.T) {
	for _, l := range [][]api.Cell{block(0, 0, 3, 4), block(rows-4, cols-3, 4, 3)} {
		spans := spansOf(l)
		for _, a := range spans {
			for _, b := range spans {
				checkPair(t, a, b, l)
			}
		}
	}
}

// checkPair holds the meeting of two spans, and whether one is within the other, against these cells, of which theirs are.
func checkPair(t *testing.T, a, b api.Span, l []api.Cell) {
	meet, ok := Meet(a, b)
	some, within := false, true
	for _, c := range l {
		inA, inB := isIn(a, c), isIn(b, c)
		some = some || inA && inB
		within = within && (inB || !inA)
		if (ok && isIn(meet, c)) != (inA && inB) {
			t.Fatalf("Meet(%v, %v): %v, %v, and %v", a, b, meet, ok, c)
		}
	}
	if ok != some || ok && !isStraight(meet) || !ok && meet != (api.Span{}) {
		t.Fatalf("Meet(%v, %v): %v, %v", a, b, meet, ok)
	}
	if Within(a, b) != within {
		t.Fatalf("Within(%v, %v): not %v", a, b, within)
	}
}

// TestEachCellOnce goes through spans of all sizes: Rows times Cols cells, each once, each of them the span's.
func TestEachCellOnce(t *testing.T) {
	n := []int{0, 1, 2, 30, 31, 32, 500, 700, 701}
	for _, row := range n {
		for _, col := range n {
			for _, corner := range []api.Cell{{Row: 33, Col: 31}, {Row: 998, Col: 690}} {
				s := api.Span{From: corner, To: api.Cell{Row: row, Col: col}}
				if len(Cells(s)) == 0 && Rows(s)*Cols(s) <= 1000 {
					t.Fatalf("%v has no cells", s)
				}
				checkCells(t, s)
			}
		}
	}
}

// checkCells goes through a span: so many cells as it should have, in their row, and those that are told as a list the same.
func checkCells(t *testing.T, s api.Span) {
	told := Cells(s)
	count := 0
	last := api.Cell{Row: -1}
	for c := range All(s) {
		if !Has(s, c) || !isIn(s, c) || !addr.Less(last, c) {
			t.Fatalf("All(%v): %v behind %v", s, c, last)
		}
		if len(told) != 0 && (count >= len(told) || told[count] != c) {
			t.Fatalf("Cells(%v): not %v at the place %d", s, c, count)
		}
		count, last = count+1, c
	}
	if count != Rows(s)*Cols(s) || count != Size(s) || len(told) != 0 && len(told) != count {
		t.Fatalf("%v: %d cells, of %d", s, count, Size(s))
	}
}

// TestWhatIsToldIsReadBack tells spans with corners far and near: no two of them have the same text.
func TestWhatIsToldIsReadBack(t *testing.T) {
	l := []api.Cell{}
	for _, row := range []int{0, 1, 8, 9, 98, 99, 998} {
		for _, col := range []int{0, 1, 25, 26, 51, 52, 700, 701} {
			l = append(l, api.Cell{Row: row, Col: col})
		}
	}
	told := map[string]bool{}
	spans := spansOf(l)
	for _, s := range spans {
		w := Text(s)
		if got, ok := Parse(w); !ok || got != s {
			t.Fatalf("Parse(%q), of %v: %v, %v", w, s, got, ok)
		}
		told[w] = true
	}
	if len(told) != len(spans) {
		t.Errorf("%d texts of %d spans", len(told), len(spans))
	}
}
