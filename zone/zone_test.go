package zone

import (
	"math"
	"slices"
	"testing"

	"oculus/api"
)

const all = uint64(math.MaxUint64)

// spanOf is the span from one row and column to others.
func spanOf(row, col, toRow, toCol int) api.Span {
	return api.Span{From: api.Cell{Row: row, Col: col}, To: api.Cell{Row: toRow, Col: toCol}}
}

// zoneOf is a zone from one row and column to others, with a level and categories.
func zoneOf(row, col, toRow, toCol, level int, cats uint64) api.Zone {
	return api.Zone{Span: spanOf(row, col, toRow, toCol), Label: api.Label{Level: level, Cats: cats}}
}

// mayBe is the document's word on cells.
func mayBe(c api.Cell) bool { return c.Row >= 0 && c.Row < 999 && c.Col >= 0 && c.Col < 702 }

// between tells whether a number is between two others, whichever is the greater one.
func between(n, a, b int) bool { return a <= n && n <= b || b <= n && n <= a }

// isIn is the document's word on which cells a span has: none, if a corner may not be.
func isIn(s api.Span, c api.Cell) bool {
	return mayBe(s.From) && mayBe(s.To) && between(c.Row, s.From.Row, s.To.Row) && between(c.Col, s.From.Col, s.To.Col)
}

// isBelow is the document's word on the order of labels.
func isBelow(a, b api.Label) bool { return a.Level <= b.Level && a.Cats&b.Cats == a.Cats }

// joined is the document's word on the join of the bottom and some labels.
func joined(l []api.Label) api.Label {
	j := api.Label{}
	for _, x := range l {
		j = api.Label{Level: max(j.Level, x.Level), Cats: j.Cats | x.Cats}
	}
	return j
}

// painted is the containers of some cells: laid on from the last zone to the first one, so that the first one stays on top.
func painted(l []api.Zone, cells []api.Cell) map[api.Cell]api.Label {
	m := map[api.Cell]api.Label{}
	for _, z := range slices.Backward(l) {
		for _, c := range cells {
			if isIn(z.Span, c) {
				m[c] = z.Label
			}
		}
	}
	return m
}

// block is so many rows and columns of cells, row by row.
func block(row, col, rows, cols int) []api.Cell {
	l := []api.Cell{}
	for r := range rows {
		for c := range cols {
			l = append(l, api.Cell{Row: row + r, Col: col + c})
		}
	}
	return l
}

// someZones is zones of many shapes about the block of three rows and columns from A1 on: of one cell, straight, turned about, such as may not be, with the bottom's label, and with labels that are not at or below one another or that may not be.
func someZones() []api.Zone {
	return []api.Zone{
		zoneOf(1, 1, 1, 1, 2, 0),
		zoneOf(0, 0, 2, 2, 1, 1),
		zoneOf(0, 1, 1, 2, 0, 0),
		zoneOf(2, 2, 1, 0, 0, 2),
		zoneOf(2, 0, 0, 1, 3, 1<<63),
		zoneOf(0, 2, 998, 701, 15, all),
		zoneOf(-1, 0, 2, 2, 4, 4),
		zoneOf(0, 0, 2, 702, 5, 8),
		zoneOf(1, 0, 1, 2, -3, 1),
		zoneOf(0, 0, 0, 2, 16, 2),
	}
}

// lists is all lists of at most three of these zones, one of them perhaps several times.
func lists(z []api.Zone) [][]api.Zone {
	l := [][]api.Zone{{}}
	for from := 0; len(l[from]) < 3; from++ {
		for _, x := range z {
			l = append(l, append(slices.Clone(l[from]), x))
		}
	}
	return l
}

// someSpans is all spans of three rows and columns from A1 on, turned about ones too, and some that may not be.
func someSpans() []api.Span {
	l := []api.Span{spanOf(-1, 0, 2, 2), spanOf(0, 0, 999, 0), spanOf(0, 702, 0, 0), spanOf(0, 0, 0, -1), spanOf(math.MinInt, math.MinInt, math.MaxInt, math.MaxInt)}
	for _, a := range block(0, 0, 3, 3) {
		for _, b := range block(0, 0, 3, 3) {
			l = append(l, api.Span{From: a, To: b})
		}
	}
	return l
}

// someLabels is labels that may be, and others.
func someLabels() []api.Label {
	return []api.Label{{}, {Level: 2}, {Level: 1, Cats: 1}, {Level: 1, Cats: 3}, {Level: 15, Cats: all &^ 2}, {Level: 15, Cats: all}, {Level: 16, Cats: all}, {Level: -1, Cats: all}, {Level: -3, Cats: 1}, {Level: math.MinInt, Cats: all}, {Level: math.MaxInt}}
}

// cellsOf is the cells of a span in a block, row by row.
func cellsOf(s api.Span, l []api.Cell) []api.Cell {
	return slices.DeleteFunc(slices.Clone(l), func(c api.Cell) bool { return !isIn(s, c) })
}

// P5.1

func TestOf(t *testing.T) {
	high := zoneOf(0, 0, 1, 1, 2, 0)
	wide := zoneOf(1, 1, 3, 3, 1, 1<<5)
	bottom := zoneOf(1, 1, 1, 1, 0, 0)
	for _, x := range []struct {
		l    []api.Zone
		c    api.Cell
		want api.Label
	}{
		{nil, api.Cell{}, api.Label{}},
		{[]api.Zone{}, api.Cell{Row: 998, Col: 701}, api.Label{}},
		{[]api.Zone{high}, api.Cell{}, high.Label},
		{[]api.Zone{high}, api.Cell{Row: 1, Col: 1}, high.Label},
		{[]api.Zone{high}, api.Cell{Row: 1}, high.Label},
		{[]api.Zone{high}, api.Cell{Row: 2, Col: 1}, api.Label{}},
		{[]api.Zone{high}, api.Cell{Row: 1, Col: 2}, api.Label{}},
		{[]api.Zone{high, wide}, api.Cell{Row: 1, Col: 1}, high.Label}, // the first one, neither the greater one nor the join
		{[]api.Zone{wide, high}, api.Cell{Row: 1, Col: 1}, wide.Label},
		{[]api.Zone{high, wide}, api.Cell{Row: 2, Col: 1}, wide.Label},
		{[]api.Zone{high, wide}, api.Cell{Row: 2, Col: 0}, api.Label{}},
		{[]api.Zone{high, high, wide}, api.Cell{Row: 3, Col: 3}, wide.Label},
		{[]api.Zone{bottom, high, wide}, api.Cell{Row: 1, Col: 1}, api.Label{}}, // a zone of the bottom is one too
		{[]api.Zone{bottom, high, wide}, api.Cell{Row: 1, Col: 0}, high.Label},
		{[]api.Zone{zoneOf(3, 1, 1, 4, 7, 3)}, api.Cell{Row: 2, Col: 3}, api.Label{Level: 7, Cats: 3}}, // not straight
		{[]api.Zone{zoneOf(3, 1, 1, 4, 7, 3)}, api.Cell{Row: 1, Col: 5}, api.Label{}},
		{[]api.Zone{zoneOf(0, 0, 998, 701, 15, all)}, api.Cell{Row: 998, Col: 701}, api.Label{Level: 15, Cats: all}},
		{[]api.Zone{zoneOf(0, 0, 999, 0, 3, 0), wide}, api.Cell{Row: 1, Col: 1}, wide.Label}, // that may not be: it has no cell
		{[]api.Zone{zoneOf(0, 0, 999, 0, 3, 0)}, api.Cell{}, api.Label{}},
		{[]api.Zone{zoneOf(0, -1, 5, 5, 3, 0)}, api.Cell{}, api.Label{}},
		{[]api.Zone{zoneOf(2, 2, 2, 2, 16, 1)}, api.Cell{Row: 2, Col: 2}, api.Label{Level: 16, Cats: 1}}, // as it is
		{[]api.Zone{zoneOf(2, 2, 2, 2, -9, 1)}, api.Cell{Row: 2, Col: 2}, api.Label{Level: -9, Cats: 1}},
	} {
		if got := Of(x.l, x.c); got != x.want {
			t.Errorf("Of(%v, %v): %v", x.l, x.c, got)
		}
	}
}

func TestOfCellsThatMayNotBe(t *testing.T) {
	n := []int{math.MinInt, -1 << 32, -1, 0, 701, 702, 998, 999, 1 << 32, math.MaxInt}
	for _, row := range n {
		for _, col := range n {
			c := api.Cell{Row: row, Col: col}
			l := []api.Zone{{Span: api.Span{From: c, To: c}, Label: api.Label{Level: 4}}, zoneOf(0, 0, 998, 701, 2, 1), zoneOf(math.MinInt, math.MinInt, math.MaxInt, math.MaxInt, 3, 2)}
			want := api.Label{}
			if mayBe(c) {
				want.Level = 4
			}
			if got := Of(l, c); got != want {
				t.Errorf("Of(%v): %v", c, got)
			}
		}
	}
}

func TestOver(t *testing.T) {
	l := []api.Zone{zoneOf(0, 0, 0, 1, 2, 1), zoneOf(0, 0, 1, 1, 1, 1<<5), zoneOf(4, 4, 4, 4, 15, all), zoneOf(6, 6, 6, 6, -2, 1<<9)}
	for _, x := range []struct {
		l    []api.Zone
		s    api.Span
		want api.Label
	}{
		{nil, spanOf(0, 0, 9, 9), api.Label{}},
		{[]api.Zone{}, api.Span{}, api.Label{}},
		{l, api.Span{}, api.Label{Level: 2, Cats: 1}},
		{l, spanOf(1, 0, 1, 1), api.Label{Level: 1, Cats: 1 << 5}},
		{l, spanOf(0, 1, 1, 1), api.Label{Level: 2, Cats: 1<<5 | 1}},
		{l, spanOf(1, 0, 0, 2), api.Label{Level: 2, Cats: 1<<5 | 1}}, // not straight
		{l, spanOf(1, 1, 3, 9), api.Label{Level: 1, Cats: 1 << 5}},
		{l, spanOf(2, 2, 3, 9), api.Label{}},
		{l, spanOf(5, 5, 0, 0), api.Label{Level: 15, Cats: all}},
		{l, spanOf(5, 4, 9, 5), api.Label{}},
		{l, spanOf(6, 6, 6, 6), api.Label{Cats: 1 << 9}}, // not below the bottom's level
		{l, spanOf(0, -1, 1, 1), api.Label{}},
		{l, spanOf(0, 0, 999, 0), api.Label{}},
		{[]api.Zone{zoneOf(3, 3, 3, 3, 16, 0)}, spanOf(2, 2, 4, 4), api.Label{Level: 16}},
	} {
		if got := Over(x.l, x.s); got != x.want {
			t.Errorf("Over(%v, %v): %v", x.l, x.s, got)
		}
	}
}

func TestSeen(t *testing.T) {
	l := []api.Zone{zoneOf(0, 0, 0, 1, 2, 1), zoneOf(0, 0, 1, 1, 1, 1<<5), zoneOf(2, 2, 2, 2, -2, 0)}
	a1, b1, c1 := api.Cell{}, api.Cell{Col: 1}, api.Cell{Col: 2}
	a2, b2, c2 := api.Cell{Row: 1}, api.Cell{Row: 1, Col: 1}, api.Cell{Row: 1, Col: 2}
	for _, x := range []struct {
		l    []api.Zone
		s    api.Span
		at   api.Label
		want []api.Cell
	}{
		{nil, spanOf(1, 2, 0, 0), api.Label{}, []api.Cell{a1, b1, c1, a2, b2, c2}},
		{[]api.Zone{}, api.Span{}, api.Label{}, []api.Cell{a1}},
		{l, spanOf(0, 0, 1, 2), api.Label{}, []api.Cell{c1, c2}},
		{l, spanOf(1, 0, 0, 2), api.Label{}, []api.Cell{c1, c2}}, // not straight
		{l, spanOf(0, 0, 1, 2), api.Label{Level: 2}, []api.Cell{c1, c2}},
		{l, spanOf(0, 0, 1, 2), api.Label{Cats: all}, []api.Cell{c1, c2}},
		{l, spanOf(0, 0, 1, 2), api.Label{Level: 2, Cats: 1}, []api.Cell{a1, b1, c1, c2}},
		{l, spanOf(0, 0, 1, 2), api.Label{Level: 1, Cats: 1<<5 | 1}, []api.Cell{c1, a2, b2, c2}},
		{l, spanOf(0, 0, 1, 2), api.Label{Level: 2, Cats: 1<<5 | 1}, []api.Cell{a1, b1, c1, a2, b2, c2}},
		{l, spanOf(0, 0, 0, 1), api.Label{Level: 1, Cats: 1<<5 | 1}, nil},
		{l, spanOf(0, 0, 0, 1), api.Label{Level: 15, Cats: all &^ 1}, nil},
		{l, spanOf(0, 1, 1, 2), api.Label{Level: -1, Cats: all}, nil},
		{l, spanOf(1, 1, 2, 3), api.Label{Level: -1, Cats: all}, []api.Cell{{Row: 2, Col: 2}}},
		{l, spanOf(0, 0, 1, -1), api.Label{Level: 15, Cats: all}, nil},
		{l, spanOf(999, 0, 0, 0), api.Label{Level: 15, Cats: all}, nil},
	} {
		if got := Seen(x.l, x.s, x.at); !slices.Equal(got, x.want) {
			t.Errorf("Seen(%v, %v, %v): %v", x.l, x.s, x.at, got)
		}
	}
}

// TestOfSpansOfManyCells asks of spans by the number of cells up to which they are told: behind it there is none, whatever the zones are.
func TestOfSpansOfManyCells(t *testing.T) {
	for _, x := range []struct {
		rows, cols int
		told       bool
	}{
		{10, 100, true}, {500, 2, true}, {25, 40, true}, {999, 1, true}, {1, 702, true},
		{7, 143, false}, {91, 11, false}, {2, 501, false}, {999, 2, false}, {2, 702, false}, {999, 702, false},
	} {
		corner := api.Cell{Row: x.rows - 1, Col: x.cols - 1}
		l := []api.Zone{{Span: api.Span{From: corner, To: corner}, Label: api.Label{Level: 3, Cats: 1}}, zoneOf(0, 0, 0, 0, 2, 2)}
		over, seen, hidden := api.Label{}, []api.Cell{}, []api.Cell{}
		if x.told {
			over = api.Label{Level: 3, Cats: 3}
			seen = block(0, 0, x.rows, x.cols)
			hidden = seen[1 : len(seen)-1]
		}
		for _, s := range []api.Span{{To: corner}, {From: corner}, spanOf(x.rows-1, 0, 0, x.cols-1)} {
			if got := Over(l, s); got != over {
				t.Errorf("Over of %v: %v", s, got)
			}
			if got := Seen(l, s, over); !slices.Equal(got, seen) {
				t.Errorf("Seen of %v by those above: %d cells", s, len(got))
			}
			if got := Seen(l, s, api.Label{}); !slices.Equal(got, hidden) {
				t.Errorf("Seen of %v by the bottom: %d cells", s, len(got))
			}
		}
	}
}

// TestZonesAreThoseOfTheDocument holds lists of up to three zones against their containers, laid on from the last zone to the first.
func TestZonesAreThoseOfTheDocument(t *testing.T) {
	cells, spans, labels := block(0, 0, 3, 3), someSpans(), someLabels()
	for _, l := range lists(someZones()) {
		containers := painted(l, cells)
		for _, c := range cells {
			if got := Of(l, c); got != containers[c] {
				t.Fatalf("Of(%v, %v): %v", l, c, got)
			}
		}
		for i, s := range spans {
			checkSpan(t, l, s, cellsOf(s, cells), containers, labels[i%len(labels)])
		}
	}
}

// checkSpan holds what is told of a span against its cells and their containers.
func checkSpan(t *testing.T, l []api.Zone, s api.Span, cells []api.Cell, containers map[api.Cell]api.Label, at api.Label) {
	labels, seen := []api.Label{}, []api.Cell{}
	for _, c := range cells {
		labels = append(labels, containers[c])
		if isBelow(containers[c], at) {
			seen = append(seen, c)
		}
	}
	if got := Over(l, s); got != joined(labels) {
		t.Fatalf("Over(%v, %v): %v", l, s, got)
	}
	if got := Seen(l, s, at); !slices.Equal(got, seen) {
		t.Fatalf("Seen(%v, %v, %v): %v", l, s, at, got)
	}
}

func TestSeenIsNewEachTime(t *testing.T) {
	l := []api.Zone{zoneOf(1, 1, 1, 1, 2, 0)}
	s := spanOf(2, 2, 0, 0)
	want := slices.Delete(block(0, 0, 3, 3), 4, 5)
	a, b := Seen(l, s, api.Label{}), Seen(l, s, api.Label{})
	for i := range a {
		a[i] = api.Cell{Row: 77, Col: 77}
	}
	_ = append(a, api.Cell{Row: 78})
	if !slices.Equal(b, want) || !slices.Equal(Seen(l, s, api.Label{}), want) {
		t.Errorf("Seen: %v, and then %v", b, Seen(l, s, api.Label{}))
	}
}

func TestZonesStayAsTheyAre(t *testing.T) {
	room := append(someZones(), zoneOf(5, 5, 4, 4, 3, 3), zoneOf(1, 1, 1, 1, 1, 1))
	l := room[:5]
	want := slices.Clone(room)
	for _, s := range someSpans() {
		Of(l, s.From)
		Over(l, s)
		Seen(l, s, api.Label{Level: 1})
		Wrong(l, 3, 3)
	}
	if !slices.Equal(room, want) {
		t.Errorf("the zones are %v", room)
	}
}

// P5.2

// good is so many zones that are right in a grid of three rows and four columns.
func good(n int) []api.Zone {
	l := []api.Zone{}
	for i := range n {
		l = append(l, zoneOf(i%3, i%2, 2, 3-i%2, i%16, 1<<i))
	}
	return l
}

func TestWrongOfOneZone(t *testing.T) {
	for _, x := range []struct {
		z    api.Zone
		want api.Errno
	}{
		{zoneOf(0, 0, 0, 0, 0, 0), api.OK},
		{zoneOf(0, 0, 2, 3, 15, all), api.OK},
		{zoneOf(2, 3, 2, 3, 7, 1), api.OK},
		{zoneOf(0, 0, 2, 4, 0, 0), api.ErrRange},
		{zoneOf(0, 0, 3, 3, 0, 0), api.ErrRange},
		{zoneOf(3, 0, 3, 0, 0, 0), api.ErrRange},
		{zoneOf(0, 4, 0, 4, 0, 0), api.ErrRange},
		{zoneOf(998, 701, 998, 701, 0, 0), api.ErrRange},
		{zoneOf(1, 0, 0, 0, 0, 0), api.ErrForm},
		{zoneOf(0, 1, 0, 0, 0, 0), api.ErrForm},
		{zoneOf(1, 0, 0, 1, 0, 0), api.ErrForm},
		{zoneOf(0, 1, 1, 0, 0, 0), api.ErrForm},
		{zoneOf(2, 3, 0, 0, 0, 0), api.ErrForm},
		{zoneOf(-1, 0, 0, 0, 0, 0), api.ErrForm},
		{zoneOf(0, -1, 0, 0, 0, 0), api.ErrForm},
		{zoneOf(0, 0, -1, 0, 0, 0), api.ErrForm},
		{zoneOf(0, 0, 0, -1, 0, 0), api.ErrForm},
		{zoneOf(math.MinInt, math.MinInt, math.MaxInt, math.MaxInt, 0, 0), api.ErrForm},
		{zoneOf(0, 0, 999, 0, 0, 0), api.ErrForm}, // no cell that may be, ahead of beyond the grid
		{zoneOf(0, 0, 0, 702, 0, 0), api.ErrForm},
		{zoneOf(0, 0, 2, 3, 16, 0), api.ErrArg},
		{zoneOf(0, 0, 2, 3, -1, all), api.ErrArg},
		{zoneOf(0, 0, 0, 0, math.MinInt, 0), api.ErrArg},
		{zoneOf(0, 0, 0, 0, math.MaxInt, 0), api.ErrArg},
		{zoneOf(3, 0, 3, 0, 16, 0), api.ErrRange}, // of several the one named first
		{zoneOf(3, 0, 2, 0, 0, 0), api.ErrForm},
		{zoneOf(1, 0, 0, 0, 16, 0), api.ErrForm},
		{zoneOf(0, 0, 0, 702, -1, 0), api.ErrForm},
	} {
		for n := range 32 {
			place, want := n, x.want
			if want == api.OK {
				place = 0
			}
			// One that is wrong in each way stands behind it, but for the list whose zones should be right.
			l := append(good(n), x.z)
			if want != api.OK {
				l = append(l, zoneOf(-1, 5, 0, 4, 99, 0))
			}
			if at, got := Wrong(l, 3, 4); at != place || got != want {
				t.Errorf("Wrong of %d good ones and %v: %d, %d", n, x.z, at, got)
			}
		}
	}
}

func TestWrongOfManyZones(t *testing.T) {
	for n := range 33 {
		if at, got := Wrong(good(n), 3, 4); at != 0 || got != api.OK {
			t.Errorf("Wrong of %d good ones: %d, %d", n, at, got)
		}
	}
	for _, n := range []int{33, 34, 35, 40, 70} {
		if at, got := Wrong(good(n), 3, 4); at != 32 || got != api.ErrFull {
			t.Errorf("Wrong of %d good ones: %d, %d", n, at, got)
		}
	}
	bad := []api.Zone{zoneOf(1, 0, 0, 0, 0, 0), zoneOf(3, 0, 3, 0, 0, 0), zoneOf(0, 0, 0, 0, 16, 0)}
	why := []api.Errno{api.ErrForm, api.ErrRange, api.ErrArg}
	for i, z := range bad {
		// One that is wrong ahead of the 33rd one is told, and the 33rd one is one too many, whatever it is.
		for _, place := range []int{0, 1, 17, 31, 32, 33} {
			l := good(40)
			l[place] = z
			at, want := place, why[i]
			if place >= 32 {
				at, want = 32, api.ErrFull
			}
			if p, got := Wrong(l, 3, 4); p != at || got != want {
				t.Errorf("Wrong of 40, %v at %d: %d, %d", z, place, p, got)
			}
		}
	}
}

func TestTheFirstWrongZoneIsTold(t *testing.T) {
	form, far, arg := zoneOf(1, 0, 0, 0, 0, 0), zoneOf(3, 0, 3, 0, 0, 0), zoneOf(0, 0, 0, 0, 16, 0)
	for _, x := range []struct {
		l    []api.Zone
		at   int
		want api.Errno
	}{
		{[]api.Zone{arg, far, form}, 0, api.ErrArg},
		{[]api.Zone{far, form, arg}, 0, api.ErrRange},
		{[]api.Zone{form, arg, far}, 0, api.ErrForm},
		{append(good(2), arg, form), 2, api.ErrArg},
		{append(good(5), far, arg, form), 5, api.ErrRange},
		{append(good(31), arg, form), 31, api.ErrArg},
		{append(append(good(1), arg), good(40)...), 1, api.ErrArg},
	} {
		if at, got := Wrong(x.l, 3, 4); at != x.at || got != x.want {
			t.Errorf("Wrong(%v): %d, %d", x.l, at, got)
		}
	}
}

func TestWrongOfGrids(t *testing.T) {
	sizes := []int{math.MinInt, -1 << 32, -5, -1, 0, 1, 2, 3, 4, 5, 998, 999, 1000, 1 << 32, math.MaxInt}
	for _, rows := range sizes {
		for _, cols := range sizes {
			if at, got := Wrong(nil, rows, cols); at != 0 || got != api.OK {
				t.Errorf("Wrong of none in %d, %d: %d, %d", rows, cols, at, got)
			}
			if at, got := Wrong(good(0), rows, cols); at != 0 || got != api.OK {
				t.Errorf("Wrong of none in %d, %d: %d, %d", rows, cols, at, got)
			}
			for _, z := range []api.Zone{zoneOf(0, 0, 0, 0, 0, 0), zoneOf(0, 0, 2, 3, 1, 0), zoneOf(2, 3, 2, 3, 1, 0), zoneOf(0, 1, 4, 1, 1, 0), zoneOf(1, 0, 1, 4, 1, 0), zoneOf(0, 0, 998, 701, 1, 0)} {
				want := api.OK
				if z.Span.To.Row >= rows || z.Span.To.Col >= cols {
					want = api.ErrRange
				}
				if at, got := Wrong([]api.Zone{z}, rows, cols); at != 0 || got != want {
					t.Errorf("Wrong of %v in %d, %d: %d, %d", z, rows, cols, at, got)
				}
				z.Label.Level = 16
				if want == api.OK {
					want = api.ErrArg
				}
				if at, got := Wrong([]api.Zone{z}, rows, cols); at != 0 || got != want {
					t.Errorf("Wrong of %v in %d, %d: %d, %d", z, rows, cols, at, got)
				}
			}
			if _, got := Wrong([]api.Zone{zoneOf(1, 0, 0, 0, 0, 0)}, rows, cols); got != api.ErrForm {
				t.Errorf("Wrong of an unstraight one in %d, %d: %d", rows, cols, got)
			}
		}
	}
}

// P5.3

// TestAZoneBehindOthersChangesNoneOfTheirs lays one zone more behind others: cells that these have keep their containers, others have its label, if it has them.
func TestAZoneBehindOthersChangesNoneOfTheirs(t *testing.T) {
	cells := block(0, 0, 4, 4)
	for _, l := range lists(someZones()[:8]) {
		for _, z := range someZones() {
			more := append(slices.Clone(l), z)
			for _, c := range cells {
				theirs := slices.ContainsFunc(l, func(z api.Zone) bool { return isIn(z.Span, c) })
				want := Of(l, c)
				if !theirs && isIn(z.Span, c) {
					want = z.Label
				}
				if got := Of(more, c); got != want {
					t.Fatalf("Of(%v, %v): %v, not %v", more, c, got, want)
				}
			}
		}
	}
}

// TestOverIsAtOrAboveEachCell asks of each cell, and that who sees all of a span's containers sees all its cells.
func TestOverIsAtOrAboveEachCell(t *testing.T) {
	cells := block(0, 0, 3, 3)
	for _, l := range lists(someZones()) {
		for _, s := range someSpans() {
			over, its := Over(l, s), cellsOf(s, cells)
			for _, c := range its {
				if !isBelow(Of(l, c), over) {
					t.Fatalf("Over(%v, %v): %v, and %v", l, s, over, c)
				}
			}
			if got := Seen(l, s, over); !slices.Equal(got, its) {
				t.Fatalf("Seen(%v, %v, %v): %v", l, s, over, got)
			}
		}
	}
}
