package node

import (
	"fmt"
	"math"
	"math/rand"
	"reflect"
	"slices"
	"strings"
	"testing"

	"oculus/api"
	"oculus/fname"
	"oculus/label"
)

// The last row and the last column of cells that may be, counted from 0 on.
const (
	lastRow = 998
	lastCol = 701
)

// num is a number written out, of so many ten-thousandths.
func num(x int64) api.Node { return api.Node{Kind: 1, V: api.Value{Kind: 1, Num: x}} }

// str is a text written out.
func str(t string) api.Node { return api.Node{Kind: 1, V: api.Value{Kind: 2, Text: t}} }

// truth is a truth written out.
func truth(n int64) api.Node { return api.Node{Kind: 1, V: api.Value{Kind: 3, Num: n}} }

// lost is what was named, and is no cell any more.
func lost() api.Node { return api.Node{Kind: 2} }

// ref is a cell as a formula names it, of which nothing is held.
func ref(row, col int) api.Ref { return api.Ref{Row: row, Col: col} }

// at is a cell.
func at(row, col int) api.Node { return api.Node{Kind: 3, A: ref(row, col)} }

// area is a range, from one corner to the other one.
func area(a, b api.Ref) api.Node { return api.Node{Kind: 4, A: a, B: b} }

// some is a range that may be.
func some() api.Node { return area(ref(1, 2), ref(3, 4)) }

// neg is a node with the other sign.
func neg(x api.Node) api.Node { return api.Node{Kind: 5, L: []api.Node{x}} }

// bin is an operator of two nodes.
func bin(op int, x, y api.Node) api.Node { return api.Node{Kind: 6, Op: op, L: []api.Node{x, y}} }

// ask is a function of its arguments.
func ask(fn int, args ...api.Node) api.Node { return api.Node{Kind: 7, Op: fn, L: args} }

// odd is a node of a kind, with others below it, whatever the kind has.
func odd(kind int, l ...api.Node) api.Node { return api.Node{Kind: kind, L: l} }

// chain is so many nodes of a kind, one below the other.
func chain(kind, deep int) api.Node {
	n := odd(kind)
	for i := 1; i < deep; i++ {
		n = odd(kind, n)
	}
	return n
}

// signs is a formula that is so deep: a cell with the other sign, again and again.
func signs(deep int) api.Node {
	n := at(0, 0)
	for i := 1; i < deep; i++ {
		n = neg(n)
	}
	return n
}

// wide is a node of a kind with so many numbers below it.
func wide(kind, many int) api.Node {
	n := odd(kind)
	for i := range many {
		n.L = append(n.L, num(int64(i)))
	}
	return n
}

// eachKind is a node of each kind that may be, and is right.
func eachKind() []api.Node {
	return []api.Node{
		num(0), num(15000), str(""), str("a"), str("2:0"), str("top"), truth(0), truth(1), lost(), at(4, 5), some(),
		neg(at(1, 1)), bin(3, num(10000), at(2, 2)), ask(fname.Na), ask(fname.Sum, some(), num(20000)), ask(fname.Declass, at(0, 1), str("0")),
	}
}

// told is a node as the tests tell it: of a great one the beginning.
func told(n api.Node) string {
	s := fmt.Sprint(n)
	return s[:min(len(s), 200)]
}

// clone is a node of new memory.
func clone(n api.Node) api.Node {
	n.L = slices.Clone(n.L)
	for i := range n.L {
		n.L[i] = clone(n.L[i])
	}
	return n
}

// listByWords is the document's word on List: what waits lies on a pile, the first of those below on top.
func listByWords(n api.Node) []api.Node {
	l := []api.Node{}
	for pile := []api.Node{n}; len(pile) > 0; {
		top := pile[len(pile)-1]
		pile = pile[:len(pile)-1]
		l = append(l, top)
		for i := len(top.L) - 1; i >= 0; i-- {
			pile = append(pile, top.L[i])
		}
	}
	return l
}

// deepByWords is the document's word on Deep: how many rows of nodes there are, each below the other one.
func deepByWords(n api.Node) int {
	deep := 0
	for row := []api.Node{n}; len(row) > 0; deep++ {
		below := []api.Node{}
		for _, x := range row {
			below = append(below, x.L...)
		}
		row = below
	}
	return deep
}

// sameByWords is the document's word on Same: in the order of lists both have the same parts, and as many nodes below each.
func sameByWords(a, b api.Node) bool {
	l, m := listByWords(a), listByWords(b)
	if len(l) != len(m) {
		return false
	}
	for i, x := range l {
		y := m[i]
		many := len(x.L) == len(y.L)
		x.L, y.L = nil, nil
		if !many || !reflect.DeepEqual(x, y) {
			return false
		}
	}
	return true
}

// writtenByWords is the document's word on what may be written out.
func writtenByWords(v api.Value) bool {
	switch v.Kind {
	case 1:
		return v.Num >= 0 && v.Text == ""
	case 2:
		for _, b := range []byte(v.Text) {
			if b < 32 || b == 127 {
				return false
			}
		}
		return v.Num == 0 && len(v.Text) <= 256
	case 3:
		return (v.Num == 0 || v.Num == 1) && v.Text == ""
	}
	return false
}

// cellByWords is the document's word on which cells may be.
func cellByWords(r api.Ref) bool {
	return 0 <= r.Row && r.Row <= lastRow && 0 <= r.Col && r.Col <= lastCol
}

// argumentByWords is the document's word on which nodes an argument of a kind may be.
func argumentByWords(kind byte, n api.Node) bool {
	if strings.IndexByte("ve", kind) >= 0 {
		return n.Kind != 4
	}
	if strings.IndexByte("rn", kind) >= 0 {
		return n.Kind == 3 || n.Kind == 4 || n.Kind == 2
	}
	if kind == 't' {
		l, is := label.Parse(n.V.Text)
		return n.Kind == 1 && n.V.Kind == 2 && is && label.Text(l) == n.V.Text
	}
	return kind == 'l'
}

// argumentsByWords is the document's word on which arguments a function may have.
func argumentsByWords(fn int, args []api.Node) bool {
	for i, x := range args {
		if !argumentByWords(fname.Kind(fn, i), x) {
			return false
		}
	}
	return fname.Fits(fn, len(args))
}

// itselfByWords is the document's word on whether a node is as told, whatever those below it are: what its kind has is taken out of it, and nothing is left.
func itselfByWords(n api.Node) bool {
	left, is := n, false
	left.Kind = 0
	switch n.Kind {
	case 1:
		is, left.V = writtenByWords(n.V), api.Value{}
	case 2:
		is = true
	case 3:
		is, left.A = cellByWords(n.A), api.Ref{}
	case 4:
		is, left.A, left.B = cellByWords(n.A) && cellByWords(n.B), api.Ref{}, api.Ref{}
	case 5:
		is, left.L = len(n.L) == 1 && n.L[0].Kind != 4, nil
	case 6:
		is = n.Op >= 1 && n.Op <= 12 && len(n.L) == 2 && n.L[0].Kind != 4 && n.L[1].Kind != 4
		left.Op, left.L = 0, nil
	case 7:
		is, left.Op, left.L = argumentsByWords(n.Op, n.L), 0, nil
	}
	return is && sameByWords(left, api.Node{})
}

// rightByWords is the document's word on Right.
func rightByWords(n api.Node) bool { return !slices.ContainsFunc(listByWords(n), notItself) }

// notItself tells whether a node is not as told.
func notItself(n api.Node) bool { return !itselfByWords(n) }

// holdTree holds Deep, Count and List against the document's words.
func holdTree(t *testing.T, n api.Node) {
	t.Helper()
	want := listByWords(n)
	if got := Count(n); got != len(want) {
		t.Errorf("Count(%s): %d, not %d", told(n), got, len(want))
	}
	if got, deep := Deep(n), deepByWords(n); got != deep {
		t.Errorf("Deep(%s): %d, not %d", told(n), got, deep)
	}
	got := List(n)
	if len(got) != len(want) {
		t.Fatalf("List(%s): %d nodes, not %d", told(n), len(got), len(want))
	}
	for i, x := range got {
		if !sameByWords(x, want[i]) {
			t.Fatalf("List(%s): %s at %d, not %s", told(n), told(x), i, told(want[i]))
		}
	}
}

// holdRight holds Right and Formula against the document's words.
func holdRight(t *testing.T, n api.Node) bool {
	t.Helper()
	want := rightByWords(n)
	if got := Right(n); got != want {
		t.Errorf("Right(%s): %v", told(n), got)
	}
	formula := want && n.Kind != 4 && deepByWords(n) <= 12
	if got := Formula(n); got != formula {
		t.Errorf("Formula(%s): %v", told(n), got)
	}
	return want
}

// holdSame holds Same against the document's words, both ways round.
func holdSame(t *testing.T, a, b api.Node) bool {
	t.Helper()
	want := sameByWords(a, b)
	if got := Same(a, b); got != want {
		t.Errorf("Same(%s, %s): %v", told(a), told(b), got)
	}
	if got := Same(b, a); got != want {
		t.Errorf("Same(%s, %s): %v", told(b), told(a), got)
	}
	return want
}

// holdAll holds all calls of a node against the document's words.
func holdAll(t *testing.T, n api.Node) {
	t.Helper()
	holdTree(t, n)
	holdRight(t, n)
	holdSame(t, n, clone(n))
}

// accept asks that nodes are right.
func accept(t *testing.T, l ...api.Node) {
	t.Helper()
	for _, n := range l {
		if !Right(n) {
			t.Errorf("Right(%s): false", told(n))
		}
		holdRight(t, n)
	}
}

// refuse asks that nodes are not right, and no formulas.
func refuse(t *testing.T, l ...api.Node) {
	t.Helper()
	for _, n := range l {
		if Right(n) || Formula(n) {
			t.Errorf("Right(%s): %v, Formula: %v", told(n), Right(n), Formula(n))
		}
		holdRight(t, n)
	}
}

// turnedRefs is a reference with one part turned, each alone.
func turnedRefs(r api.Ref) []api.Ref {
	l := []api.Ref{r, r, r, r, r, r}
	l[0].Row++
	l[1].Row--
	l[2].Col++
	l[3].Col--
	l[4].HoldRow = !r.HoldRow
	l[5].HoldCol = !r.HoldCol
	return l
}

// turnedValues is a value with one part turned, each alone.
func turnedValues(v api.Value) []api.Value {
	l := []api.Value{v, v, v, v, v, v}
	l[0].Kind++
	l[1].Kind--
	l[2].Num++
	l[3].Num--
	l[4].Text += "a"
	l[5].Text = "b" + v.Text
	return l
}

// turned is a node with one part turned, each alone; also how many nodes are below it.
func turned(n api.Node) []api.Node {
	l := []api.Node{}
	turn := func(change func(x *api.Node)) {
		x := clone(n)
		change(&x)
		l = append(l, x)
	}
	for _, by := range []int{1, -1, 2, 100} {
		turn(func(x *api.Node) { x.Kind += by })
		turn(func(x *api.Node) { x.Op += by })
	}
	for _, v := range turnedValues(n.V) {
		turn(func(x *api.Node) { x.V = v })
	}
	for _, r := range turnedRefs(n.A) {
		turn(func(x *api.Node) { x.A = r })
	}
	for _, r := range turnedRefs(n.B) {
		turn(func(x *api.Node) { x.B = r })
	}
	for _, more := range []api.Node{{}, num(0), at(0, 0), some()} {
		turn(func(x *api.Node) { x.L = append(x.L, more) })
		turn(func(x *api.Node) { x.L = append([]api.Node{more}, x.L...) })
	}
	if len(n.L) > 0 {
		turn(func(x *api.Node) { x.L = x.L[1:] })
		turn(func(x *api.Node) { x.L = x.L[:len(x.L)-1] })
	}
	return l
}

// turnedBelow is a node with one part turned of one of those below it, each alone.
func turnedBelow(n api.Node) []api.Node {
	l := []api.Node{}
	for i, below := range n.L {
		for _, y := range turned(below) {
			x := clone(n)
			x.L[i] = y
			l = append(l, x)
		}
	}
	return l
}

// P22.1: Deep, Count and List.

// askTree asks for how deep a node is, and for how many there are.
func askTree(t *testing.T, n api.Node, deep, count int) {
	t.Helper()
	if got := Deep(n); got != deep {
		t.Errorf("Deep(%s): %d, not %d", told(n), got, deep)
	}
	if got := Count(n); got != count {
		t.Errorf("Count(%s): %d, not %d", told(n), got, count)
	}
	if got := List(n); len(got) != count {
		t.Errorf("List(%s): %d nodes, not %d", told(n), len(got), count)
	}
	holdAll(t, n)
}

func TestTrees(t *testing.T) {
	askTree(t, api.Node{}, 1, 1)
	askTree(t, num(10000), 1, 1)
	askTree(t, some(), 1, 1)
	askTree(t, ask(fname.Na), 1, 1)
	askTree(t, neg(num(10000)), 2, 2)
	askTree(t, bin(1, num(10000), at(0, 0)), 2, 3)
	askTree(t, bin(1, num(10000), neg(at(0, 0))), 3, 4)
	askTree(t, bin(1, neg(at(0, 0)), num(10000)), 3, 4)
	askTree(t, ask(fname.Sum, num(0), num(1), num(2), num(3), num(4), num(5), num(6), num(7)), 2, 9)
	askTree(t, ask(fname.Sum, num(0), neg(neg(num(1))), num(2)), 4, 6)
	askTree(t, ask(fname.Sum, neg(num(0)), neg(neg(neg(num(1)))), neg(neg(num(2)))), 5, 10)
	askTree(t, bin(1, bin(1, num(0), num(1)), bin(1, num(2), num(3))), 3, 7)
	askTree(t, odd(0, odd(8, odd(-1))), 3, 3)
	askTree(t, odd(1, num(0), odd(3, at(0, 0), some()), lost()), 3, 6)
}

func TestListInOrder(t *testing.T) {
	n := ask(fname.Sum, bin(1, num(1), neg(num(2))), some(), neg(ask(fname.Na)))
	want := []api.Node{n, n.L[0], num(1), neg(num(2)), num(2), some(), n.L[2], ask(fname.Na)}
	got := List(n)
	if len(got) != len(want) {
		t.Fatalf("List: %d nodes, not %d", len(got), len(want))
	}
	for i, x := range got {
		if !sameByWords(x, want[i]) {
			t.Errorf("List: %v at %d, not %v", x, i, want[i])
		}
	}
	for _, n := range eachKind() {
		if l := List(n); len(l) == 0 || !reflect.DeepEqual(l[0], n) {
			t.Errorf("List(%v): %v, not itself first", n, l)
		}
	}
}

func TestChains(t *testing.T) {
	for _, kind := range []int{0, 1, 2, 3, 4, 5, 6, 7, 8, -1, math.MaxInt, math.MinInt} {
		for deep := 1; deep <= 20; deep++ {
			askTree(t, chain(kind, deep), deep, deep)
		}
	}
	askTree(t, chain(5, 200), 200, 200)
}

func TestWideTrees(t *testing.T) {
	for _, kind := range []int{0, 1, 4, 5, 7, 8, -1} {
		for many := 1; many <= 20; many++ {
			askTree(t, wide(kind, many), 2, many+1)
		}
	}
	askTree(t, wide(7, 5000), 2, 5001)
}

func TestDeeperAmongOthers(t *testing.T) {
	for many := 1; many <= 9; many++ {
		for place := range many {
			for deep := 1; deep <= 5; deep++ {
				n := wide(7, many)
				n.L[place] = chain(5, deep)
				askTree(t, n, 1+deep, many+deep)
				other := wide(7, many)
				for i := range other.L {
					other.L[i] = chain(i, 2)
				}
				other.L[place] = chain(5, 2+deep)
				askTree(t, other, 3+deep, 1+2*many+deep)
			}
		}
	}
}

func TestFullTrees(t *testing.T) {
	for below := 1; below <= 4; below++ {
		n, count := at(0, 0), 1
		for deep := 1; deep <= 4; deep++ {
			askTree(t, n, deep, count)
			up := odd(deep)
			for range below {
				up.L = append(up.L, n)
			}
			n, count = up, 1+below*count
		}
	}
}

func TestNestedParts(t *testing.T) {
	const most = 1 << 16
	n := signs(most)
	if Deep(n) != most || Count(n) != most || !Right(n) || Formula(n) || !Same(n, n) {
		t.Errorf("of %d nodes: Deep %d, Count %d, Right %v, Formula %v, Same %v", most, Deep(n), Count(n), Right(n), Formula(n), Same(n, n))
	}
	if Same(n, neg(n)) || Same(n, n.L[0]) {
		t.Error("Same: chains of unlike lengths")
	}
}

// P22.2: Right.

func TestRightOfEachKind(t *testing.T) {
	accept(t, eachKind()...)
	for _, kind := range []int{0, 8, -1, 9, 100, math.MaxInt, math.MinInt} {
		refuse(t, odd(kind), odd(kind, num(0)), api.Node{Kind: kind, V: num(0).V}, api.Node{Kind: kind, Op: 1, L: []api.Node{num(0), num(0)}})
	}
}

func TestRightOfEachPartTurned(t *testing.T) {
	for _, n := range eachKind() {
		for _, x := range append(turned(n), turnedBelow(n)...) {
			holdAll(t, x)
			holdRight(t, neg(x))
			holdRight(t, bin(1, num(0), x))
			holdRight(t, ask(fname.Sum, num(0), x))
		}
	}
}

// withMore is a node with one part more, each alone: an operator, a value, two references, a node below.
func withMore(n api.Node) []api.Node {
	l := []api.Node{n, n, n, n, n, n, n, n, n, n}
	l[0].Op = 1
	l[1].Op = -1
	l[2].V.Kind = 1
	l[3].V.Num = 1
	l[4].V.Text = "a"
	l[5].A.Row = 1
	l[6].A.HoldCol = true
	l[7].B.Col = 1
	l[8].B.HoldRow = true
	l[9].L = []api.Node{num(0)}
	return l
}

// refuseMore asks that a node is right, and with each of the parts more not right.
func refuseMore(t *testing.T, n api.Node, parts ...int) {
	t.Helper()
	accept(t, n)
	l := withMore(n)
	for _, part := range parts {
		refuse(t, l[part])
	}
}

func TestPartsThatAKindHasNot(t *testing.T) {
	refuseMore(t, num(10000), 0, 1, 4, 5, 6, 7, 8, 9)
	refuseMore(t, str("a"), 0, 1, 2, 3, 5, 6, 7, 8, 9)
	refuseMore(t, truth(0), 0, 1, 4, 5, 6, 7, 8, 9)
	refuseMore(t, lost(), 0, 1, 2, 3, 4, 5, 6, 7, 8, 9)
	refuseMore(t, at(0, 0), 0, 1, 2, 3, 4, 7, 8, 9)
	refuseMore(t, some(), 0, 1, 2, 3, 4, 9)
	refuseMore(t, neg(num(0)), 0, 1, 2, 3, 4, 5, 6, 7, 8)
	refuseMore(t, bin(1, num(0), num(0)), 1, 2, 3, 4, 5, 6, 7, 8)
	refuseMore(t, ask(fname.Abs, num(0)), 1, 2, 3, 4, 5, 6, 7, 8)
	refuseMore(t, ask(fname.Na), 1, 2, 3, 4, 5, 6, 7, 8, 9)
	accept(t, withMore(at(0, 0))[5:7]...)
	accept(t, withMore(some())[5:9]...)
}

func TestNoNodesBelow(t *testing.T) {
	for _, n := range []api.Node{num(0), str(""), truth(1), lost(), at(0, 0), some(), ask(fname.Na)} {
		n.L = []api.Node{}
		accept(t, n)
		n.L = make([]api.Node, 0, 3)
		accept(t, n)
		n.L = []api.Node{{}}
		refuse(t, n)
	}
}

func TestNumbersWrittenOut(t *testing.T) {
	accept(t, num(0), num(1), num(9999), num(10000), num(math.MaxInt64-1), num(math.MaxInt64))
	refuse(t, num(-1), num(-10000), num(-math.MaxInt64), num(math.MinInt64))
	for _, x := range []int64{0, 1, 10000, -1} {
		refuse(t, api.Node{Kind: 1, V: api.Value{Kind: 1, Num: x, Text: "a"}})
	}
}

func TestTextsWrittenOut(t *testing.T) {
	for _, size := range []int{0, 1, 2, 127, 200, 255, 256} {
		accept(t, str(strings.Repeat("a", size)))
	}
	for _, size := range []int{257, 258, 1000, 100000} {
		refuse(t, str(strings.Repeat("a", size)))
	}
	for b := range 256 {
		one := string([]byte{byte(b)})
		for _, text := range []string{one, "ab" + one, one + "ab", "a" + one + "b", strings.Repeat("a", 255) + one} {
			n := str(text)
			if is := Right(n); is != (b >= 32 && b != 127) {
				t.Errorf("Right of the text %q: %v", text, is)
			}
			holdRight(t, n)
		}
		holdRight(t, str(strings.Repeat("a", 256)+one))
	}
	accept(t, str(`"`), str(`""`), str("#REF"), str("caf\u00e9"), str("\xff\xc3"))
	for _, x := range []int64{1, -1, 10000} {
		refuse(t, api.Node{Kind: 1, V: api.Value{Kind: 2, Num: x}}, api.Node{Kind: 1, V: api.Value{Kind: 2, Num: x, Text: "a"}})
	}
}

func TestTruthsWrittenOut(t *testing.T) {
	accept(t, truth(0), truth(1))
	refuse(t, truth(2), truth(-1), truth(10000), truth(math.MaxInt64), truth(math.MinInt64))
	refuse(t, api.Node{Kind: 1, V: api.Value{Kind: 3, Text: "TRUE"}}, api.Node{Kind: 1, V: api.Value{Kind: 3, Num: 1, Text: "1"}})
}

func TestOtherValuesWrittenOut(t *testing.T) {
	refuse(t, odd(1))
	for fault := int64(-1); fault <= 8; fault++ {
		refuse(t, api.Node{Kind: 1, V: api.Value{Kind: 4, Num: fault}})
	}
	for _, kind := range []int{0, 4, 5, -1, math.MaxInt, math.MinInt} {
		for _, x := range []int64{0, 1, 2, -1} {
			refuse(t, api.Node{Kind: 1, V: api.Value{Kind: kind, Num: x}}, api.Node{Kind: 1, V: api.Value{Kind: kind, Num: x, Text: "a"}})
		}
	}
}

// edgeRows and edgeCols are numbers at and about the edges of the grid.
func edgeRows() []int { return []int{math.MinInt, -1, 0, 1, 997, 998, 999, 1000, math.MaxInt} }
func edgeCols() []int { return []int{math.MinInt, -1, 0, 1, 700, 701, 702, 998, math.MaxInt} }

// edgeRefs is all references at and about the edges of the grid, with the same held.
func edgeRefs(held int) []api.Ref {
	l := []api.Ref{}
	for _, row := range edgeRows() {
		for _, col := range edgeCols() {
			l = append(l, api.Ref{Row: row, Col: col, HoldRow: held&1 != 0, HoldCol: held&2 != 0})
		}
	}
	return l
}

func TestCells(t *testing.T) {
	accept(t, at(0, 0), at(lastRow, 0), at(0, lastCol), at(lastRow, lastCol))
	refuse(t, at(-1, 0), at(0, -1), at(lastRow+1, 0), at(0, lastCol+1), at(lastRow, lastCol+1), at(lastRow+1, lastCol), at(lastCol, lastRow))
	for held := range 4 {
		right := 0
		for _, r := range edgeRefs(held) {
			if holdRight(t, api.Node{Kind: 3, A: r}) {
				right++
			}
		}
		if right != 16 {
			t.Errorf("%d cells may be, not 16", right)
		}
	}
}

func TestRanges(t *testing.T) {
	first, last := ref(0, 0), ref(lastRow, lastCol)
	accept(t, area(first, last), area(last, first), area(first, first), area(last, last))
	accept(t, area(ref(3, 9), ref(7, 2)), area(ref(7, 2), ref(3, 9)), area(ref(0, lastCol), ref(lastRow, 0)))
	for _, r := range []api.Ref{ref(-1, 0), ref(0, -1), ref(lastRow+1, 0), ref(0, lastCol+1)} {
		refuse(t, area(r, last), area(last, r), area(r, first), area(first, r), area(r, r))
	}
	for held := range 4 {
		for other := range 4 {
			for _, a := range edgeRefs(held) {
				for _, b := range edgeRefs(other) {
					n := area(a, b)
					if Right(n) != (cellByWords(a) && cellByWords(b)) || Formula(n) {
						t.Errorf("Right(%v): %v, Formula: %v", n, Right(n), Formula(n))
					}
				}
			}
		}
	}
}

func TestNegs(t *testing.T) {
	accept(t, neg(num(0)), neg(neg(num(0))), neg(lost()), neg(at(0, 0)), neg(str("a")), neg(ask(fname.Sum, some())))
	refuse(t, odd(5), odd(5, num(0), num(0)), odd(5, num(0), num(0), num(0)), neg(some()), neg(num(-1)), neg(odd(0)), neg(neg(some())))
	for _, n := range eachKind() {
		if is := Right(neg(n)); is != (n.Kind != 4) {
			t.Errorf("Right(%v): %v", neg(n), is)
		}
	}
}

func TestBins(t *testing.T) {
	for op := -3; op <= 20; op++ {
		n := bin(op, at(0, 0), num(0))
		if is := Right(n); is != (op >= 1 && op <= 12) {
			t.Errorf("Right of the operator %d: %v", op, is)
		}
		holdRight(t, n)
		for many := range 5 {
			x := wide(6, many)
			x.Op = op
			if is := Right(x); is != (op >= 1 && op <= 12 && many == 2) {
				t.Errorf("Right of the operator %d with %d below: %v", op, many, is)
			}
			holdRight(t, x)
		}
		for _, x := range eachKind() {
			for _, y := range eachKind() {
				holdRight(t, bin(op, x, y))
			}
		}
	}
	refuse(t, bin(math.MaxInt, num(0), num(0)), bin(math.MinInt, num(0), num(0)), bin(257, num(0), num(0)))
	refuse(t, bin(1, some(), num(0)), bin(1, num(0), some()), bin(1, some(), some()), bin(7, neg(some()), num(0)), bin(7, num(0), bin(1, some(), num(0))))
	refuse(t, bin(1, num(-1), num(0)), bin(1, num(0), num(-1)), bin(1, odd(0), num(0)), bin(1, num(0), odd(8)))
}

// taking is an argument of a kind, that is right.
func taking(kind byte) api.Node {
	switch kind {
	case 'r', 'n', 'l':
		return some()
	case 't':
		return str("2:0,5")
	}
	return num(10000)
}

// arguments is so many arguments of a function, each of its kind.
func arguments(fn, many int) []api.Node {
	l := []api.Node{}
	for i := range many {
		l = append(l, taking(fname.Kind(fn, i)))
	}
	return l
}

func TestCallsWithSoManyArguments(t *testing.T) {
	for fn := 1; fn <= fname.Last; fn++ {
		for many := range 13 {
			n := ask(fn, arguments(fn, many)...)
			if is := Right(n); is != fname.Fits(fn, many) {
				t.Errorf("Right of %s with %d arguments: %v", fname.Name(fn), many, is)
			}
			holdRight(t, n)
		}
	}
	for _, c := range []struct{ fn, least, most int }{
		{fname.Na, 0, 0}, {fname.Abs, 1, 1}, {fname.If, 2, 3}, {fname.Sum, 1, 8}, {fname.Switch, 3, 8}, {fname.Choose, 2, 8}, {fname.Mid, 3, 3}, {fname.Declass, 2, 2},
	} {
		for many := range 12 {
			if is := Right(ask(c.fn, arguments(c.fn, many)...)); is != (many >= c.least && many <= c.most) {
				t.Errorf("Right of %s with %d arguments: %v", fname.Name(c.fn), many, is)
			}
		}
	}
	refuse(t, ask(fname.Sum, wide(0, 1000).L...))
}

func TestCallsOfNoFunction(t *testing.T) {
	for _, fn := range []int{0, -1, -78, 79, 80, 256 + fname.Abs, math.MaxInt, math.MinInt} {
		for many := range 10 {
			refuse(t, ask(fn, arguments(fn, many)...))
			refuse(t, ask(fn, wide(0, many).L...))
		}
	}
	accept(t, ask(1, num(0)), ask(78, num(0)))
}

func TestArgumentsOfEachKind(t *testing.T) {
	nodes := append(eachKind(), str("2:0,"), str("16"), str("TOP"), num(-1), odd(0), odd(8), odd(-1), neg(some()))
	for fn := 1; fn <= fname.Last; fn++ {
		for many := range 9 {
			if !fname.Fits(fn, many) {
				continue
			}
			for place := range many {
				for _, x := range nodes {
					args := arguments(fn, many)
					args[place] = x
					holdRight(t, ask(fn, args...))
				}
			}
		}
	}
}

// takes asks which of the nodes may be an argument: of one kind after the other, a number, a text, a label's text, what is lost, a cell, a range, another function.
func takes(t *testing.T, want string, call func(x api.Node) api.Node) {
	t.Helper()
	nodes := []api.Node{num(0), str("a"), str("2:0"), lost(), at(0, 0), some(), ask(fname.Na)}
	got := ""
	for _, x := range nodes {
		if Right(call(x)) {
			got += "y"
		} else {
			got += "n"
		}
	}
	if got != want {
		t.Errorf("%s: %s, not %s", told(call(num(0))), got, want)
	}
}

func TestArgumentsByHand(t *testing.T) {
	takes(t, "yyyyyny", func(x api.Node) api.Node { return ask(fname.Abs, x) })
	takes(t, "yyyyyny", func(x api.Node) api.Node { return ask(fname.Mid, num(0), num(0), x) })
	takes(t, "yyyyyny", func(x api.Node) api.Node { return ask(fname.If, x, num(0)) })
	takes(t, "yyyyyny", func(x api.Node) api.Node { return ask(fname.If, num(0), num(0), x) })
	takes(t, "yyyyyny", func(x api.Node) api.Node { return ask(fname.Declass, x, str("0")) })
	takes(t, "nnynnnn", func(x api.Node) api.Node { return ask(fname.Declass, at(0, 0), x) })
	takes(t, "nnnyyyn", func(x api.Node) api.Node { return ask(fname.Row, x) })
	takes(t, "nnnyyyn", func(x api.Node) api.Node { return ask(fname.Columns, x) })
	takes(t, "nnnyyyn", func(x api.Node) api.Node { return ask(fname.Vlookup, num(0), x, num(0)) })
	takes(t, "yyyyyny", func(x api.Node) api.Node { return ask(fname.Vlookup, num(0), some(), x) })
	takes(t, "nnnyyyn", func(x api.Node) api.Node { return ask(fname.Sumproduct, some(), x) })
	takes(t, "nnnyyyn", func(x api.Node) api.Node { return ask(fname.Index, x, num(0)) })
	takes(t, "yyyyyny", func(x api.Node) api.Node { return ask(fname.Index, some(), num(0), x) })
	takes(t, "yyyyyyy", func(x api.Node) api.Node { return ask(fname.Sum, x) })
	takes(t, "yyyyyyy", func(x api.Node) api.Node {
		return ask(fname.Xor, num(0), num(0), num(0), num(0), num(0), num(0), num(0), x)
	})
}

func TestTextsOfLabels(t *testing.T) {
	for _, text := range []string{"0", "15", "2:0", "2:0,5", "0:63", "top", "15:0,1,2"} {
		accept(t, ask(fname.Declass, at(0, 0), str(text)))
	}
	for _, text := range []string{"", " 0", "0 ", "00", "16", "-1", "2:", "2:5,0", "2:0,0", "2:64", "TOP", "Top", "bottom", "2;0", "2:0,", "1.0", "\"0\""} {
		refuse(t, ask(fname.Declass, at(0, 0), str(text)))
		accept(t, ask(fname.Exact, at(0, 0), str(text)))
	}
	refuse(t, ask(fname.Declass, at(0, 0), num(0)), ask(fname.Declass, at(0, 0), truth(0)), ask(fname.Declass, at(0, 0), neg(str("0"))))
	refuse(t, ask(fname.Declass, at(0, 0), bin(6, str("2:"), str("0"))), ask(fname.Declass, at(0, 0), api.Node{Kind: 2, V: api.Value{Kind: 2, Text: "0"}}))
	refuse(t, ask(fname.Declass, at(0, 0), api.Node{Kind: 1, V: api.Value{Kind: 1, Text: "0"}}), ask(fname.Declass, str("0"), at(0, 0)))
}

// paths is a right tree for each place at which something may be wrong: what is there is the one that is handed in.
func paths(x api.Node) []api.Node {
	return []api.Node{
		neg(neg(neg(neg(x)))),
		bin(1, num(0), bin(2, num(0), bin(3, x, num(0)))),
		bin(1, bin(2, bin(3, num(0), x), num(0)), num(0)),
		ask(fname.Sum, some(), num(0), at(0, 0), bin(1, x, num(0)), some()),
		ask(fname.Sum, some(), num(0), at(0, 0), some(), neg(x)),
		ask(fname.If, x, num(0), num(0)),
		ask(fname.If, num(0), num(0), x),
		ask(fname.Declass, ask(fname.If, num(0), x), str("top")),
		ask(fname.Vlookup, num(0), some(), ask(fname.Abs, ask(fname.Int, neg(x)))),
		ask(fname.Sum, num(0), num(0), num(0), num(0), num(0), num(0), num(0), ask(fname.Not, x)),
	}
}

func TestWrongBelow(t *testing.T) {
	for _, good := range eachKind() {
		for i, n := range paths(good) {
			if is := Right(n); is != (good.Kind != 4) {
				t.Errorf("Right of the tree %d with %v: %v", i, good, is)
			}
			holdAll(t, n)
		}
		for _, x := range turned(good) {
			for _, n := range paths(x) {
				holdRight(t, n)
			}
		}
	}
	for _, bad := range []api.Node{{}, num(-1), str("\n"), truth(2), at(-1, 0), area(ref(0, 0), ref(999, 0)), odd(5), bin(13, num(0), num(0)), ask(79, num(0)), ask(fname.Abs), odd(2, num(0))} {
		refuse(t, paths(bad)...)
	}
}

// P22.2: Formula.

// askFormula asks whether a node is a formula.
func askFormula(t *testing.T, n api.Node, want bool) {
	t.Helper()
	if got := Formula(n); got != want {
		t.Errorf("Formula(%s): %v", told(n), got)
	}
	holdRight(t, n)
}

func TestFormula(t *testing.T) {
	for _, n := range eachKind() {
		askFormula(t, n, n.Kind != 4)
		askFormula(t, ask(fname.Sum, n), true)
		askFormula(t, ask(fname.Sum, num(0), n), true)
	}
	askFormula(t, api.Node{}, false)
	askFormula(t, num(-1), false)
	askFormula(t, some(), false)
	askFormula(t, area(ref(0, 0), ref(0, 0)), false)
	askFormula(t, neg(some()), false)
	askFormula(t, ask(fname.Sum, ask(fname.Sum, some())), true)
	askFormula(t, ask(fname.Sum, ask(fname.Abs, some())), false)
}

func TestFormulasThatAreDeep(t *testing.T) {
	for deep := 1; deep <= 20; deep++ {
		askFormula(t, signs(deep), deep <= 12)
		askFormula(t, ask(fname.Sum, num(0), signs(deep), some()), deep+1 <= 12)
		askFormula(t, bin(1, signs(deep), num(0)), deep+1 <= 12)
		accept(t, signs(deep))
		n := some()
		for i := 1; i < deep; i++ {
			n = ask(fname.Sum, num(0), n)
		}
		askFormula(t, n, deep > 1 && deep <= 12)
		bad := signs(deep)
		bad.V.Kind = 1
		askFormula(t, bad, false)
		low := num(-1)
		for i := 1; i < deep; i++ {
			low = neg(low)
		}
		askFormula(t, low, false)
	}
}

// P22.2: Same.

// askSame asks whether two nodes are the same, both ways round.
func askSame(t *testing.T, a, b api.Node, want bool) {
	t.Helper()
	if got := holdSame(t, a, b); got != want {
		t.Errorf("%s and %s: %v", told(a), told(b), got)
	}
}

func TestSame(t *testing.T) {
	askSame(t, api.Node{}, api.Node{}, true)
	askSame(t, num(0), num(0), true)
	askSame(t, num(0), num(1), false)
	askSame(t, num(0), truth(0), false)
	askSame(t, num(0), str(""), false)
	askSame(t, str("a"), str("b"), false)
	askSame(t, str("a"), str("ab"), false)
	askSame(t, at(0, 0), api.Node{Kind: 3, A: api.Ref{HoldRow: true}}, false)
	askSame(t, at(0, 0), api.Node{Kind: 3, A: api.Ref{HoldCol: true}}, false)
	askSame(t, api.Node{Kind: 3, A: api.Ref{HoldRow: true}}, api.Node{Kind: 3, A: api.Ref{HoldCol: true}}, false)
	askSame(t, area(ref(1, 2), ref(3, 4)), area(ref(3, 4), ref(1, 2)), false)
	askSame(t, bin(1, num(0), num(1)), bin(1, num(1), num(0)), false)
	askSame(t, bin(1, num(0), num(1)), bin(2, num(0), num(1)), false)
	askSame(t, bin(1, num(0), num(1)), bin(1, num(0), num(1)), true)
	askSame(t, ask(fname.Sum, num(0)), ask(fname.Max, num(0)), false)
	askSame(t, ask(fname.Na), api.Node{Kind: 7, Op: fname.Na, L: []api.Node{}}, true)
	askSame(t, ask(fname.Sum, num(0), num(1)), ask(fname.Sum, num(0)), false)
	askSame(t, ask(fname.Sum, num(0), neg(num(1))), ask(fname.Sum, neg(num(0)), num(1)), false)
	askSame(t, odd(5, neg(num(0))), odd(5, odd(5), num(0)), false)
	askSame(t, neg(neg(num(0))), neg(num(0)), false)
	askSame(t, odd(8, odd(-1)), odd(8, odd(-1)), true)
}

func TestSameOfEachPair(t *testing.T) {
	l := append(eachKind(), api.Node{}, odd(8), odd(-1), chain(0, 3), chain(5, 3), wide(7, 3), num(-1))
	for i, a := range l {
		for j, b := range l {
			if got := holdSame(t, a, clone(b)); got != (i == j) {
				t.Errorf("%v and %v: %v", a, b, got)
			}
		}
	}
}

func TestSameOfEachPartTurned(t *testing.T) {
	for _, n := range append(eachKind(), api.Node{}, odd(8, num(0), some()), chain(5, 4)) {
		for _, x := range append(turned(n), turnedBelow(n)...) {
			askSame(t, n, x, false)
			askSame(t, neg(n), neg(x), false)
			askSame(t, ask(fname.Sum, num(0), n, num(1)), ask(fname.Sum, num(0), x, num(1)), false)
			askSame(t, x, clone(x), true)
		}
	}
}

func TestSameOfBeginnings(t *testing.T) {
	for many := range 10 {
		for more := range 10 {
			askSame(t, wide(7, many), wide(7, more), many == more)
			askSame(t, neg(wide(7, many)), neg(wide(7, more)), many == more)
			askSame(t, chain(5, many+1), chain(5, more+1), many == more)
			askSame(t, signs(many+1), signs(more+1), many == more)
		}
	}
}

// chanceValue is a value by chance, mostly one that may be written out.
func chanceValue(r *rand.Rand) api.Value {
	texts := []string{"", "a", "0", "2:0", "top", "\n", "x\x7f", "caf\u00e9"}
	nums := []int64{0, 1, 2, 10000, -1, math.MaxInt64, math.MinInt64}
	v := api.Value{Kind: 1 + r.Intn(3)}
	switch {
	case r.Intn(12) == 0:
		return api.Value{Kind: r.Intn(7) - 1, Num: nums[r.Intn(len(nums))], Text: texts[r.Intn(len(texts))]}
	case v.Kind == 2:
		v.Text = texts[r.Intn(len(texts))]
	default:
		v.Num = nums[r.Intn(2*v.Kind)%2]
	}
	return v
}

// chanceRef is a reference by chance, mostly one to a cell that may be.
func chanceRef(r *rand.Rand) api.Ref {
	x := api.Ref{Row: r.Intn(999), Col: r.Intn(702), HoldRow: r.Intn(2) == 0, HoldCol: r.Intn(2) == 0}
	if r.Intn(20) == 0 {
		x.Row = edgeRows()[r.Intn(9)]
	}
	if r.Intn(20) == 0 {
		x.Col = edgeCols()[r.Intn(9)]
	}
	return x
}

// chanceNode is a node by chance, at most so deep, mostly one that is right.
func chanceNode(r *rand.Rand, deep int) api.Node {
	kind := 1 + r.Intn(7)
	if deep <= 1 {
		kind = 1 + r.Intn(4)
	}
	switch kind {
	case 1:
		return api.Node{Kind: 1, V: chanceValue(r)}
	case 2:
		return lost()
	case 3:
		return api.Node{Kind: 3, A: chanceRef(r)}
	case 4:
		return area(chanceRef(r), chanceRef(r))
	case 5:
		return neg(chanceNode(r, deep-1))
	case 6:
		return bin(1+r.Intn(12), chanceNode(r, deep-1), chanceNode(r, deep-1))
	}
	n := ask(1 + r.Intn(fname.Last))
	for many := r.Intn(5); len(n.L) < many || len(n.L) < 8 && !fname.Fits(n.Op, len(n.L)); {
		x := chanceNode(r, deep-1)
		if kind := fname.Kind(n.Op, len(n.L)); !argumentByWords(kind, x) && r.Intn(15) > 0 {
			x = taking(kind)
		}
		n.L = append(n.L, x)
	}
	return n
}

func TestNodesByChance(t *testing.T) {
	r := rand.New(rand.NewSource(22))
	right, wrong := 0, 0
	for range 12000 {
		n := chanceNode(r, 1+r.Intn(5))
		holdAll(t, n)
		if !rightByWords(n) {
			wrong++
			continue
		}
		right++
		if Count(n) > 60 {
			continue
		}
		l := append(turned(n), turnedBelow(n)...)
		x := l[r.Intn(len(l))]
		holdAll(t, x)
		askSame(t, n, x, false)
	}
	if right < 2000 || wrong < 2000 {
		t.Errorf("by chance %d nodes are right, and %d not", right, wrong)
	}
}

// P22.3: what follows.

// holdLaws holds what follows of a node that is right.
func holdLaws(t *testing.T, n api.Node) {
	t.Helper()
	l := List(n)
	if len(l) != Count(n) {
		t.Errorf("List(%s): %d nodes; Count: %d", told(n), len(l), Count(n))
	}
	for _, x := range l {
		if Right(n) && !Right(x) {
			t.Errorf("%s is right, but %s of its List is not", told(n), told(x))
		}
		if Deep(x) > Deep(n) || Count(x) > Count(n) {
			t.Errorf("%s is more than %s, of which it is a part", told(x), told(n))
		}
	}
	if Formula(n) && !Right(n) {
		t.Errorf("%s is a formula, but not right", told(n))
	}
}

func TestWhatFollows(t *testing.T) {
	for _, n := range eachKind() {
		holdLaws(t, n)
		for _, x := range paths(n) {
			holdLaws(t, x)
		}
	}
	r := rand.New(rand.NewSource(322))
	for range 4000 {
		holdLaws(t, chanceNode(r, 1+r.Intn(5)))
	}
	holdLaws(t, signs(100))
}

// Rules: nothing that is handed in is changed, what is handed out is new, and nothing panics.

// spared is a node of which each list has spare room, and what lies there.
func spared(n api.Node, rooms *[][]api.Node) api.Node {
	room := make([]api.Node, len(n.L)+3)
	for i, x := range n.L {
		room[i] = spared(x, rooms)
	}
	for i := len(n.L); i < len(room); i++ {
		room[i] = num(77)
	}
	*rooms = append(*rooms, room)
	n.L = room[:len(n.L)]
	return n
}

func TestNothingIsChanged(t *testing.T) {
	for _, good := range eachKind() {
		for _, made := range append(paths(good), odd(0, good, odd(8, good))) {
			rooms := [][]api.Node{}
			n := spared(made, &rooms)
			Deep(n)
			Count(n)
			List(n)
			Right(n)
			Formula(n)
			Same(n, made)
			if !sameByWords(n, made) {
				t.Errorf("%v became %v", made, n)
			}
			for _, room := range rooms {
				for _, x := range room[len(room)-3:] {
					if !sameByWords(x, num(77)) {
						t.Errorf("of %v the spare room was changed", made)
					}
				}
			}
		}
	}
}

// spoil changes each node of all lists of a node, and of their spare room.
func spoil(n api.Node) {
	for i := range n.L {
		spoil(n.L[i])
		n.L[i] = odd(99)
	}
	room := n.L[len(n.L):cap(n.L)]
	for i := range room {
		room[i] = odd(99)
	}
}

func TestListIsNew(t *testing.T) {
	for _, good := range eachKind() {
		for _, made := range append(paths(good), odd(0, good, odd(8, good)), good) {
			rooms := [][]api.Node{}
			n := spared(made, &rooms)
			want := listByWords(made)
			for i := range want {
				l, other := List(n), List(n)
				spoil(l[i])
				for j, x := range l {
					if j != i && !sameByWords(x, want[j]) {
						t.Errorf("List(%v): what is at %d was changed with what is at %d", made, j, i)
					}
					if !sameByWords(other[j], want[j]) {
						t.Errorf("List(%v): another answer was changed with what is at %d", made, i)
					}
				}
			}
			if !sameByWords(n, made) {
				t.Errorf("%v was changed with its List", made)
			}
		}
	}
}

func TestNothingPanics(t *testing.T) {
	far := []int{math.MinInt, -1, 0, 1, 2, 3, 4, 5, 6, 7, 8, 79, math.MaxInt}
	for _, kind := range far {
		for _, op := range far {
			for _, l := range [][]api.Node{nil, {}, {{}}, {num(0)}, {some(), {}}, {at(-1, 0), odd(7), odd(6, odd(5))}, wide(0, 20).L} {
				for _, v := range []api.Value{{}, {Kind: kind, Num: int64(op)}, {Kind: op, Num: math.MinInt64, Text: "\x00"}} {
					n := api.Node{Kind: kind, Op: op, V: v, A: ref(op, kind), B: ref(kind, op), L: l}
					holdAll(t, n)
					holdAll(t, api.Node{Kind: kind, Op: op, L: l})
					holdAll(t, api.Node{Kind: kind, V: v})
				}
			}
		}
	}
}

// FuzzAll holds all calls against the document's words, of trees made by chance.
func FuzzAll(f *testing.F) {
	f.Add(int64(1), 3, 0)
	f.Add(int64(2), 5, 7)
	f.Fuzz(func(t *testing.T, seed int64, deep, turn int) {
		n := chanceNode(rand.New(rand.NewSource(seed)), 1+int(uint(deep)%5))
		holdAll(t, n)
		holdLaws(t, n)
		l := append(turned(n), turnedBelow(n)...)
		x := l[uint(turn)%uint(len(l))]
		holdAll(t, x)
		askSame(t, n, x, false)
	})
}
