package parse

import (
	"fmt"
	"math/rand"
	"regexp"
	"slices"
	"strconv"
	"strings"
	"testing"

	"oculus/api"
	"oculus/fname"
	"oculus/label"
	"oculus/lex"
	"oculus/node"
)

// The errors that Parse may tell.
const (
	form = api.Errno(1)
	long = api.Errno(3)
	deep = api.Errno(4)
	name = api.Errno(6)
)

// num is a number written out.
func num(x int64) api.Node { return api.Node{Kind: 1, V: api.Value{Kind: 1, Num: x * 10000}} }

// str is a text written out.
func str(t string) api.Node { return api.Node{Kind: 1, V: api.Value{Kind: 2, Text: t}} }

// truth is a truth written out.
func truth(n int64) api.Node { return api.Node{Kind: 1, V: api.Value{Kind: 3, Num: n}} }

// lost is what #REF is.
func lost() api.Node { return api.Node{Kind: 2} }

// ref is a reference of which nothing is held.
func ref(row, col int) api.Ref { return api.Ref{Row: row, Col: col} }

// at is a cell.
func at(row, col int) api.Node { return api.Node{Kind: 3, A: ref(row, col)} }

// held is a cell of which something is held.
func held(row, col int, holdRow, holdCol bool) api.Node {
	return api.Node{Kind: 3, A: api.Ref{Row: row, Col: col, HoldRow: holdRow, HoldCol: holdCol}}
}

// area is a range, from one corner to the other one.
func area(a, b api.Ref) api.Node { return api.Node{Kind: 4, A: a, B: b} }

// neg is a node with the other sign.
func neg(x api.Node) api.Node { return api.Node{Kind: 5, L: []api.Node{x}} }

// bin is an operator of two nodes.
func bin(op int, x, y api.Node) api.Node { return api.Node{Kind: 6, Op: op, L: []api.Node{x, y}} }

// ask is a function of its arguments.
func ask(fn int, args ...api.Node) api.Node { return api.Node{Kind: 7, Op: fn, L: args} }

// rep is a text so many times over.
func rep(s string, n int) string { return strings.Repeat(s, n) }

// same tells whether all parts of two nodes are the same: a list without a node may be nil.
func same(a, b api.Node) bool {
	return a.Kind == b.Kind && a.Op == b.Op && a.V == b.V && a.A == b.A && a.B == b.B && slices.EqualFunc(a.L, b.L, same)
}

// The document's words, told anew.

// cellRow is a cell's text: the letters are A to ZZ, the numbers 1 to 999.
var cellRow = regexp.MustCompile(`\A(\$?)([A-Z]{1,2})(\$?)([1-9][0-9]{0,2})\z`)

// refByWords is the document's word on Ref.
func refByWords(t string) (api.Ref, bool) {
	m := cellRow.FindStringSubmatch(t)
	if m == nil {
		return api.Ref{}, false
	}
	col := int(m[2][0] - 'A')
	if len(m[2]) == 2 {
		col = 26*(col+1) + int(m[2][1]-'A')
	}
	row, _ := strconv.Atoi(m[4])
	return api.Ref{Row: row - 1, Col: col, HoldRow: m[3] == "$", HoldCol: m[1] == "$"}, true
}

// What the grammar speaks of: up to a power each is a row of the next one, with signs between.
const (
	comparison = iota
	join
	sum
	product
	power
	signedOne
	atom
	arguments
	argument
)

// between is the signs that may stand between those of a row.
func between(what int) []string {
	return strings.Fields([]string{"= <> < <= > >=", "&", "+ -", "* /", "^"}[what])
}

// allOperators is the signs of the operators 1 to 12.
func allOperators() []string { return strings.Fields("+ - * / ^ & = <> < <= > >=") }

// operatorOf is the number of an operator.
func operatorOf(sign string) int { return 1 + slices.Index(allOperators(), sign) }

// part is what some tokens are asked to be.
type part struct{ what, from, to int }

// reading is what they are: of arguments all, of others one node.
type reading struct {
	l  []api.Node
	is bool
}

// grammar is tokens, and what parts of them were found to be.
type grammar struct {
	l     []lex.Token
	found map[part]reading
}

// sign tells whether a token is a sign.
func (g *grammar) sign(at int, s string) bool { return g.l[at].Kind == 4 && g.l[at].Text == s }

// cell is the reference of a token that is a cell.
func (g *grammar) cell(at int) (api.Ref, bool) {
	r, is := refByWords(g.l[at].Text)
	return r, is && g.l[at].Kind == 3
}

// read tells what some tokens are, if they are what is asked.
func (g *grammar) read(what, from, to int) reading {
	p := part{what, from, to}
	got, is := g.found[p]
	if !is {
		got = g.tell(what, from, to)
		g.found[p] = got
	}
	return got
}

func (g *grammar) tell(what, from, to int) reading {
	switch what {
	case signedOne:
		if one := g.read(atom, from, to); one.is {
			return one
		}
		if from < to && g.sign(from, "-") {
			if one := g.read(signedOne, from+1, to); one.is {
				return reading{[]api.Node{neg(one.l[0])}, true}
			}
		}
		return reading{}
	case atom:
		return g.tellAtom(from, to)
	case arguments:
		return g.tellArguments(from, to)
	case argument:
		return g.tellArgument(from, to)
	}
	return g.tellRow(what, from, to)
}

// tellRow has one alone, or a row with one behind it.
func (g *grammar) tellRow(what, from, to int) reading {
	if one := g.read(what+1, from, to); one.is {
		return one
	}
	for k := from + 1; k < to-1; k++ {
		if g.l[k].Kind != 4 || !slices.Contains(between(what), g.l[k].Text) {
			continue
		}
		first, second := g.read(what, from, k), g.read(what+1, k+1, to)
		if first.is && second.is {
			return reading{[]api.Node{bin(operatorOf(g.l[k].Text), first.l[0], second.l[0])}, true}
		}
	}
	return reading{}
}

func (g *grammar) tellAtom(from, to int) reading {
	if to-from == 1 {
		return g.tellToken(from)
	}
	if to-from < 3 || !g.sign(to-1, ")") {
		return reading{}
	}
	if g.sign(from, "(") {
		return g.read(comparison, from+1, to-1)
	}
	if g.l[from].Kind == 3 && g.sign(from+1, "(") {
		if args := g.read(arguments, from+2, to-1); args.is {
			return reading{[]api.Node{ask(fname.Number(g.l[from].Text), args.l...)}, true}
		}
	}
	return reading{}
}

// tellToken has what may stand alone.
func (g *grammar) tellToken(at int) reading {
	one := g.l[at]
	if r, is := g.cell(at); is {
		return reading{[]api.Node{{Kind: 3, A: r}}, true}
	}
	switch {
	case one.Kind == 1:
		return reading{[]api.Node{{Kind: 1, V: api.Value{Kind: 1, Num: one.N}}}, true}
	case one.Kind == 2:
		return reading{[]api.Node{str(one.Text)}, true}
	case one.Kind == 3 && one.Text == "TRUE":
		return reading{[]api.Node{truth(1)}, true}
	case one.Kind == 3 && one.Text == "FALSE":
		return reading{[]api.Node{truth(0)}, true}
	case g.sign(at, "#REF"):
		return reading{[]api.Node{lost()}, true}
	}
	return reading{}
}

func (g *grammar) tellArguments(from, to int) reading {
	if from == to {
		return reading{nil, true}
	}
	if one := g.read(argument, from, to); one.is {
		return one
	}
	for k := from + 1; k < to-1; k++ {
		if !g.sign(k, ",") {
			continue
		}
		ahead, last := g.read(arguments, from, k), g.read(argument, k+1, to)
		if ahead.is && last.is {
			return reading{append(slices.Clone(ahead.l), last.l...), true}
		}
	}
	return reading{}
}

func (g *grammar) tellArgument(from, to int) reading {
	if to-from == 3 && g.sign(from+1, ":") {
		a, is := g.cell(from)
		b, also := g.cell(from + 2)
		if is && also {
			return reading{[]api.Node{area(a, b)}, true}
		}
	}
	return g.read(comparison, from, to)
}

// deepByWords is how deep a node is.
func deepByWords(n api.Node) int {
	most := 0
	for _, x := range n.L {
		most = max(most, deepByWords(x))
	}
	return most + 1
}

// rightByWords tells whether a node that the grammar makes is right: of such just calls may not be.
func rightByWords(n api.Node) bool {
	for i, x := range n.L {
		if n.Kind == 7 && !argumentByWords(fname.Kind(n.Op, i), x) || !rightByWords(x) {
			return false
		}
	}
	return n.Kind != 7 || fname.Fits(n.Op, len(n.L))
}

// argumentByWords tells whether a node may be an argument of a kind.
func argumentByWords(kind byte, n api.Node) bool {
	switch kind {
	case 'v', 'e':
		return n.Kind != 4
	case 'l':
		return true
	case 'r', 'n':
		return n.Kind == 2 || n.Kind == 3 || n.Kind == 4
	case 't':
		_, is := label.Parse(n.V.Text)
		return n.Kind == 1 && n.V.Kind == 2 && is
	}
	return false
}

// parseByWords is the document's word on Parse.
func parseByWords(s string) (api.Node, api.Errno) {
	l, _, e := lex.Lex(s)
	if e != 0 {
		return api.Node{}, e
	}
	g := grammar{l, map[part]reading{}}
	got := g.read(comparison, 0, len(l)-1)
	if !got.is {
		return api.Node{}, form
	}
	n := got.l[0]
	if !rightByWords(n) {
		return api.Node{}, name
	}
	if deepByWords(n) > 12 {
		return api.Node{}, deep
	}
	return n, 0
}

// holdLaws holds what is told of each answer: what is parsed is a formula, and beside an error there is nothing.
func holdLaws(t *testing.T, s string, n api.Node, e api.Errno) {
	t.Helper()
	if e == 0 && !node.Formula(n) {
		t.Errorf("Parse(%.250q): %v, which is no formula", s, n)
	}
	if e != 0 && !same(n, api.Node{}) {
		t.Errorf("Parse(%.250q): %v beside the error %d", s, n, e)
	}
}

// holdParse holds Parse against the document's words.
func holdParse(t *testing.T, s string) api.Errno {
	t.Helper()
	want, wantErr := parseByWords(s)
	got, err := Parse(s)
	if err != wantErr || !same(got, want) {
		t.Errorf("Parse(%.250q): %v, %d; not %v, %d", s, got, err, want, wantErr)
	}
	holdLaws(t, s, got, err)
	return wantErr
}

// holdRef holds Ref against the document's words.
func holdRef(t *testing.T, s string) bool {
	t.Helper()
	want, is := refByWords(s)
	if got, ok := Ref(s); got != want || ok != is {
		t.Errorf("Ref(%.80q): %v, %v; not %v, %v", s, got, ok, want, is)
	}
	return is
}

// accept asks that a text is parsed as a node.
func accept(t *testing.T, s string, want api.Node) {
	t.Helper()
	got, err := Parse(s)
	if err != 0 || !same(got, want) {
		t.Errorf("Parse(%.250q): %v, %d; not %v", s, got, err, want)
	}
	holdLaws(t, s, got, err)
}

// refuse asks that texts are refused with this error; if it is 0, that they are formulas.
func refuse(t *testing.T, want api.Errno, l ...string) {
	t.Helper()
	for _, s := range l {
		got, err := Parse(s)
		if err != want {
			t.Errorf("Parse(%.250q): %v, %d; not the error %d", s, got, err, want)
		}
		holdLaws(t, s, got, err)
	}
}

// allSigns is all signs of tokens.
func allSigns() []string { return strings.Fields("<> <= >= #REF + - * / ^ & = < > ( ) , :") }

// allTokens is tokens of each kind, all signs among them.
func allTokens() []string {
	return append(allSigns(), "1", "2.5", `"a"`, `"0"`, "TRUE", "FALSE", "A1", "$B$2", "SUM", "NA", "X", "DECLASS")
}

// eachRow does something with each row of just so many pieces.
func eachRow(pieces []string, many int, do func(row []string)) {
	row := make([]string, 0, many)
	var grow func()
	grow = func() {
		if len(row) == many {
			do(row)
			return
		}
		for _, p := range pieces {
			row = append(row, p)
			grow()
			row = row[:len(row)-1]
		}
	}
	grow()
}

// someFormulas is texts of formulas of all kinds, with the nodes that they are.
func someFormulas() map[string]api.Node {
	return map[string]api.Node{
		"1":                                 num(1),
		"007":                               num(7),
		"12.5":                              {Kind: 1, V: api.Value{Kind: 1, Num: 125000}},
		`""`:                                str(""),
		`"say ""no"""`:                      str(`say "no"`),
		"TRUE":                              truth(1),
		"FALSE":                             truth(0),
		"#REF":                              lost(),
		"A1":                                at(0, 0),
		"$ZZ$999":                           held(998, 701, true, true),
		"-A1":                               neg(at(0, 0)),
		"1+2*3":                             bin(1, num(1), bin(3, num(2), num(3))),
		"(1+2)*3":                           bin(3, bin(1, num(1), num(2)), num(3)),
		"2^3^2":                             bin(5, bin(5, num(2), num(3)), num(2)),
		"-2^2":                              bin(5, neg(num(2)), num(2)),
		`A1<>""`:                            bin(8, at(0, 0), str("")),
		"NA()":                              ask(fname.Na),
		"SUM(A$1:A5)":                       ask(fname.Sum, area(api.Ref{HoldRow: true}, ref(4, 0))),
		`DECLASS(A1,"2:0")`:                 ask(fname.Declass, at(0, 0), str("2:0")),
		"SUM(A1:B2,-C3,4)&\"x\"":            bin(6, ask(fname.Sum, area(ref(0, 0), ref(1, 1)), neg(at(2, 2)), num(4)), str("x")),
		"IF(A1>=0,VLOOKUP(1,B2:A1,2),NA())": ask(fname.If, bin(12, at(0, 0), num(0)), ask(fname.Vlookup, num(1), area(ref(1, 1), ref(0, 0)), num(2)), ask(fname.Na)),
	}
}

// P23.1: texts that are none's, and the tokens' errors.

func TestNothingIsNoFormula(t *testing.T) {
	for n := range 201 {
		refuse(t, form, rep(" ", n))
	}
	refuse(t, long, rep(" ", 201), rep(" ", 1000))
	refuse(t, form, "()", "(())", "( )", `( ( ) )`)
}

// wrongTokens is texts at which no token begins.
func wrongTokens() []string {
	l := []string{"#", "#NA", "#DIV", "# REF", "#re", "a", "a1", "sum", ".", ".5", "1.", "1. ", ";", "!", "%", "[", "]", "{", "}", "'", "_", "?", "@", "\\", "|", "~", "`", `"`, `"a`, `"a""`, "\"\n\"", "\"\x7f\"", "\t", "\n", "\x00", "\x7f", "\x80", "\xff", "\u00a0", "\u00e9", rep("9", 30), "922337203685478"}
	return l
}

func TestTokensErrors(t *testing.T) {
	for _, bad := range wrongTokens() {
		refuse(t, form, bad, " "+bad, "1+"+bad, "1+A1"+bad+"+1", "1 "+bad, "A1 "+bad, "SUM(1,"+bad+")", "("+bad+")", "-"+bad)
		// What would be no formula besides.
		refuse(t, form, "1+"+bad+")", "()"+bad, "1 1 "+bad, "X "+bad, ",,"+bad, "+"+bad)
		// What would be refused for its names, or for its depth.
		refuse(t, form, "X(1)+"+bad, "ABS()+"+bad, rep("-", 20)+"1+"+bad, "ABS(A1:B2)"+bad)
		holdParse(t, bad)
	}
}

func TestEachByteInAFormula(t *testing.T) {
	for b := range 256 {
		w := string([]byte{byte(b)})
		for _, s := range []string{"1+A1", "SUM(A1:B2,3)", `A1&"x"`, "-$B$12^2", "TRUE"} {
			for place := range len(s) + 1 {
				holdParse(t, s[:place]+w+s[place:])
				if place < len(s) {
					holdParse(t, s[:place]+w+s[place+1:])
				}
			}
		}
		holdParse(t, w)
		holdParse(t, w+w)
	}
}

func TestHowLongATextIs(t *testing.T) {
	for n := 195; n <= 205; n++ {
		want := api.Errno(0)
		if n > 200 {
			want = long
		}
		for _, end := range []string{"1", "A1", `""`, "#REF", "TRUE", "NA()", "-1", "1+1"} {
			s := rep(" ", n-len(end)) + end
			refuse(t, want, s, end+rep(" ", n-len(end)))
		}
		if n <= 200 {
			accept(t, rep(" ", n-2)+"A1", at(0, 0))
			accept(t, "A1"+rep(" ", n-2), at(0, 0))
			accept(t, `"`+rep("x", n-2)+`"`, str(rep("x", n-2)))
			accept(t, `"`+rep(" ", n-2)+`"`, str(rep(" ", n-2)))
		} else {
			refuse(t, long, `"`+rep("x", n-2)+`"`)
		}
	}
}

// P23.1: tokens in a row.

func TestEachTokenAlone(t *testing.T) {
	good := map[string]api.Node{"1": num(1), "2.5": {Kind: 1, V: api.Value{Kind: 1, Num: 25000}}, `"a"`: str("a"), `"0"`: str("0"), "TRUE": truth(1), "FALSE": truth(0), "A1": at(0, 0), "$B$2": held(1, 1, true, true), "#REF": lost()}
	for _, s := range allTokens() {
		if n, is := good[s]; is {
			accept(t, s, n)
		} else {
			refuse(t, form, s)
		}
		holdParse(t, s)
	}
}

func TestTokensInARow(t *testing.T) {
	for many := range 4 {
		eachRow(allTokens(), many, func(row []string) {
			apart := strings.Join(row, " ")
			holdParse(t, apart)
			holdParse(t, strings.Join(row, ""))
			holdParse(t, "SUM("+apart+")")
		})
	}
}

func TestLongerRows(t *testing.T) {
	for many := range 6 {
		eachRow(strings.Fields("- * ( ) , : 1 A1 SUM"), many, func(row []string) { holdParse(t, strings.Join(row, " ")) })
	}
	for many := range 5 {
		eachRow(strings.Fields("- + ^ & <= ( ) , : 2 B2 SUM #REF TRUE"), many, func(row []string) {
			holdParse(t, strings.Join(row, " "))
		})
	}
}

func TestTwoInARowAreNoFormula(t *testing.T) {
	atoms := []string{"1", `"a"`, "TRUE", "#REF", "A1", "NA()", "(1)", "SUM(A1:B2)"}
	for _, a := range atoms {
		for _, b := range atoms {
			s := a + " " + b
			// A word with brackets behind is a call.
			if b == "(1)" && (a == "TRUE" || a == "A1") {
				refuse(t, name, s)
			} else {
				refuse(t, form, s, "1+"+s, s+"+1", "("+s+")", "SUM("+s+")", "-"+s)
			}
			holdParse(t, s)
		}
	}
	refuse(t, form, `""""1`, "1A", "1A1", "1TRUE", "12.5.5", "1.23456")
}

// P23.1: operators.

// reduced is a row of nodes with operators between: what binds most is taken first, and of several the first one.
func reduced(nodes []api.Node, signs []string) api.Node {
	tight := strings.Fields("^ */ +- & =<><=>=")
	nodes, signs = slices.Clone(nodes), slices.Clone(signs)
	for _, row := range tight {
		for i := 0; i < len(signs); {
			if !strings.Contains(row, signs[i]) {
				i++
				continue
			}
			nodes[i] = bin(operatorOf(signs[i]), nodes[i], nodes[i+1])
			nodes, signs = slices.Delete(nodes, i+1, i+2), slices.Delete(signs, i, i+1)
		}
	}
	return nodes[0]
}

func TestEachOperator(t *testing.T) {
	texts := []string{"7", "0.5", `"+"`, "TRUE", "FALSE", "#REF", "A1", "$C3", "NA()", "SUM(A1:B2)", "(1)", "-1", "--A1"}
	for i, sign := range allOperators() {
		for _, a := range texts {
			for _, b := range texts {
				x, _ := Parse(a)
				y, _ := Parse(b)
				accept(t, a+sign+b, bin(i+1, x, y))
				accept(t, a+" "+sign+"  "+b, bin(i+1, x, y))
				holdParse(t, a+sign+b)
			}
		}
		refuse(t, form, sign, "1"+sign, "("+sign+")", "(1"+sign+")", "1"+sign+")", "SUM(1"+sign+")", "1"+sign+",", "1"+sign+":", "1"+sign+"SUM", "1"+sign+"A1:B2", "A1:B2"+sign+"1", "1"+sign+"()")
		if sign != "-" {
			refuse(t, form, sign+"1", sign+"A1", "("+sign+"1)", sign+sign+"1", "SUM("+sign+"1)", "1+"+sign+"1", "-"+sign+"1")
		}
	}
}

func TestOperatorsByHand(t *testing.T) {
	accept(t, "1+2", bin(1, num(1), num(2)))
	accept(t, "1-2", bin(2, num(1), num(2)))
	accept(t, "1*2", bin(3, num(1), num(2)))
	accept(t, "1/2", bin(4, num(1), num(2)))
	accept(t, "1^2", bin(5, num(1), num(2)))
	accept(t, "1&2", bin(6, num(1), num(2)))
	accept(t, "1=2", bin(7, num(1), num(2)))
	accept(t, "1<>2", bin(8, num(1), num(2)))
	accept(t, "1<2", bin(9, num(1), num(2)))
	accept(t, "1<=2", bin(10, num(1), num(2)))
	accept(t, "1>2", bin(11, num(1), num(2)))
	accept(t, "1>=2", bin(12, num(1), num(2)))
	accept(t, "2^3^2", bin(5, bin(5, num(2), num(3)), num(2)))
	accept(t, "2^(3^2)", bin(5, num(2), bin(5, num(3), num(2))))
	accept(t, "8/4/2", bin(4, bin(4, num(8), num(4)), num(2)))
	accept(t, "8-4-2", bin(2, bin(2, num(8), num(4)), num(2)))
	accept(t, "8-4+2", bin(1, bin(2, num(8), num(4)), num(2)))
	accept(t, "8/4*2", bin(3, bin(4, num(8), num(4)), num(2)))
	accept(t, "1&2&3", bin(6, bin(6, num(1), num(2)), num(3)))
	accept(t, "1<2<3", bin(9, bin(9, num(1), num(2)), num(3)))
	accept(t, "1=2<>3", bin(8, bin(7, num(1), num(2)), num(3)))
	accept(t, "1=2&3+4*5^6", bin(7, num(1), bin(6, num(2), bin(1, num(3), bin(3, num(4), bin(5, num(5), num(6)))))))
	accept(t, "1^2*3+4&5=6", bin(7, bin(6, bin(1, bin(3, bin(5, num(1), num(2)), num(3)), num(4)), num(5)), num(6)))
	accept(t, "1+2*3-4/5", bin(2, bin(1, num(1), bin(3, num(2), num(3))), bin(4, num(4), num(5))))
	accept(t, "1*2+3*4", bin(1, bin(3, num(1), num(2)), bin(3, num(3), num(4))))
	// Without a blank between they are other signs.
	refuse(t, form, "1< =2", "1> =2", "1< >2", "1=<2", "1=>2", "1><2", "1==2", "1<<2")
}

func TestOperatorsInARow(t *testing.T) {
	nodes := []api.Node{num(1), at(1, 1), str("c"), truth(1), lost()}
	texts := []string{"1", "B2", `"c"`, "TRUE", "#REF"}
	for many := range 5 {
		eachRow(allOperators(), many, func(signs []string) {
			s := texts[0]
			for i, sign := range signs {
				s += sign + texts[i+1]
			}
			accept(t, s, reduced(nodes[:many+1], signs))
			if many < 4 {
				accept(t, "SUM("+s+",A1)", ask(fname.Sum, reduced(nodes[:many+1], signs), at(0, 0)))
				holdParse(t, s)
			}
		})
	}
}

func TestOperatorsWithSignsBetween(t *testing.T) {
	nodes := []api.Node{neg(num(1)), neg(neg(at(1, 1))), neg(str("c")), neg(ask(fname.Na))}
	texts := []string{"-1", "--B2", `-"c"`, "-NA()"}
	for many := range 4 {
		eachRow(allOperators(), many, func(signs []string) {
			s := texts[0]
			for i, sign := range signs {
				s += sign + texts[i+1]
			}
			accept(t, s, reduced(nodes[:many+1], signs))
		})
	}
}

func TestOperatorsAndBrackets(t *testing.T) {
	eachRow(allOperators(), 2, func(signs []string) {
		a, b := operatorOf(signs[0]), operatorOf(signs[1])
		accept(t, "(1"+signs[0]+"2)"+signs[1]+"3", bin(b, bin(a, num(1), num(2)), num(3)))
		accept(t, "1"+signs[0]+"(2"+signs[1]+"3)", bin(a, num(1), bin(b, num(2), num(3))))
		accept(t, "(1"+signs[0]+"2"+signs[1]+"3)", reduced([]api.Node{num(1), num(2), num(3)}, signs))
		accept(t, "-(1"+signs[0]+"2)"+signs[1]+"3", bin(b, neg(bin(a, num(1), num(2))), num(3)))
		accept(t, "1"+signs[0]+"-(2"+signs[1]+"3)", bin(a, num(1), neg(bin(b, num(2), num(3)))))
		s := "1" + signs[0] + " " + signs[1] + "2"
		if signs[1] == "-" {
			accept(t, s, bin(a, num(1), neg(num(2))))
		} else {
			refuse(t, form, s)
		}
		holdParse(t, "1"+signs[0]+signs[1]+"2")
	})
}

// P23.1: signs.

func TestSigns(t *testing.T) {
	accept(t, "-1", neg(num(1)))
	accept(t, "- 1", neg(num(1)))
	accept(t, `-"a"`, neg(str("a")))
	accept(t, "-TRUE", neg(truth(1)))
	accept(t, "-FALSE", neg(truth(0)))
	accept(t, "-#REF", neg(lost()))
	accept(t, "-A1", neg(at(0, 0)))
	accept(t, "-$A$1", neg(held(0, 0, true, true)))
	accept(t, "-NA()", neg(ask(fname.Na)))
	accept(t, "-(1)", neg(num(1)))
	accept(t, "-(-1)", neg(neg(num(1))))
	accept(t, "--1", neg(neg(num(1))))
	accept(t, "- - -1", neg(neg(neg(num(1)))))
	accept(t, "-2^2", bin(5, neg(num(2)), num(2)))
	accept(t, "2^-2", bin(5, num(2), neg(num(2))))
	accept(t, "2^-2^2", bin(5, bin(5, num(2), neg(num(2))), num(2)))
	accept(t, "--2^--2", bin(5, neg(neg(num(2))), neg(neg(num(2)))))
	accept(t, "-(2^2)", neg(bin(5, num(2), num(2))))
	accept(t, "-2*3", bin(3, neg(num(2)), num(3)))
	accept(t, "-2+3", bin(1, neg(num(2)), num(3)))
	accept(t, "-2&3", bin(6, neg(num(2)), num(3)))
	accept(t, "-2=3", bin(7, neg(num(2)), num(3)))
	accept(t, "1--2", bin(2, num(1), neg(num(2))))
	accept(t, "1---2", bin(2, num(1), neg(neg(num(2)))))
	accept(t, "1+-2", bin(1, num(1), neg(num(2))))
	accept(t, "SUM(-A1,-1)", ask(fname.Sum, neg(at(0, 0)), neg(num(1))))
	for n := range 12 {
		want := num(1)
		for range n {
			want = neg(want)
		}
		accept(t, rep("-", n)+"1", want)
		accept(t, rep("- ", n)+"1", want)
		accept(t, rep("-(", n)+"1"+rep(")", n), want)
	}
	refuse(t, form, "-", "--", "- -", "1-", "1--", "-)", "(-)", "-()", "SUM(-)", "SUM(-,1)", "SUM(1,-)", "-,", "-:", "-+1", "-*1", "-SUM", "-X", "-A1:B2", "SUM(-A1:B2)", "SUM(A1:-B2)")
	refuse(t, form, "+1", "+A1", `+"a"`, "+TRUE", "+#REF", "+NA()", "+(1)", "+-1", "-+1", "1++1", "1*+1", "SUM(+1)", "(+1)", "2^+2", "++1")
}

// P23.1: atoms.

func TestNumbers(t *testing.T) {
	for s, x := range map[string]int64{"0": 0, "00": 0, "0.0": 0, "1": 10000, "1.0": 10000, "1.2345": 12345, "0.0001": 1, "922337203685477.5807": 9223372036854775807, "007.50": 75000} {
		accept(t, s, api.Node{Kind: 1, V: api.Value{Kind: 1, Num: x}})
	}
	refuse(t, form, "922337203685477.5808", "1.", ".1", "1.2.3", "1e5", "1E5", "1,5", "1 000", "0x1", "1_0", "$1")
}

func TestTexts(t *testing.T) {
	for _, w := range []string{"", " ", "a", "A1", "TRUE", "1", "-", "+", "(", ")", ",", ":", "#REF", "SUM(", "=", "<>", "\x80\xff", "caf\u00e9", "0", "2:0"} {
		accept(t, `"`+w+`"`, str(w))
		accept(t, `SUM("`+w+`","`+w+`")`, ask(fname.Sum, str(w), str(w)))
		// A text is no sign, and no cell.
		refuse(t, form, `1"`+w+`"2`, `"`+w+`"1`, `1"`+w+`"`, `SUM("`+w+`":B2)`, `SUM(A1:"`+w+`")`, `SUM"`+w+`"1)`, `SUM(1"`+w+`"2)`, `(1"`+w+`"`, `"`+w+`"1)`, `"`+w+`"(1)`)
	}
	accept(t, `""""`, str(`"`))
	accept(t, `"a""b"`, str(`a"b`))
	accept(t, `"a"&"b"`, bin(6, str("a"), str("b")))
	refuse(t, form, `"a" "b"`, `'a'`, `"a`, `a"`)
}

func TestTruths(t *testing.T) {
	accept(t, "TRUE", truth(1))
	accept(t, "FALSE", truth(0))
	accept(t, "TRUE&FALSE", bin(6, truth(1), truth(0)))
	accept(t, "NOT(TRUE)", ask(fname.Not, truth(1)))
	refuse(t, form, "TRUES", "TRUE1", "TRUE$", "$TRUE", "$TRUE$1", "TRU", "XTRUE", "TRUETRUE", "TRUE2", "FALSE1", "FALSEX", "FALS", "FALSE0", "$FALSE", "T", "F", "TRUE TRUE", "true", "True", "FALSE FALSE", "TRUE:FALSE", "SUM(TRUE:FALSE)", "SUM(TRUE:A1)", "SUM(A1:TRUE)")
	// With brackets behind a Word is a call, and no function has that name.
	refuse(t, name, "TRUE()", "TRUE(1)", "TRUE ( 1 )", "FALSE()", "FALSE(1,2)", "TRUE(A1:B2)", "TRUE()+1", "1+TRUE()", "IF(TRUE(),1)", "TRUE(TRUE)")
	refuse(t, form, "TRUE(", "TRUE)", "TRUE(1", "TRUE(,)", "TRUE()()", "TRUE(1)2")
}

func TestLost(t *testing.T) {
	accept(t, "#REF", lost())
	accept(t, "#REF+#REF", bin(1, lost(), lost()))
	accept(t, "SUM(#REF,A1)", ask(fname.Sum, lost(), at(0, 0)))
	accept(t, "ROWS(#REF)", ask(fname.Rows, lost()))
	accept(t, "ABS(#REF)", ask(fname.Abs, lost()))
	refuse(t, form, "#REF!", "#REF #REF", "#REF()", "#REF(1)", "SUM(#REF:A1)", "SUM(A1:#REF)", "SUM(#REF:#REF)", "#REFA1", "#REF1", "#ref", "$#REF", "#NA", "#DIV", "#VALUE", "#NUM", "#AUTH", "#CYCLE")
}

// P23.1: brackets.

func TestBrackets(t *testing.T) {
	for s, n := range someFormulas() {
		accept(t, "("+s+")", n)
		accept(t, "( "+s+" )", n)
		accept(t, "(("+s+"))", n)
		accept(t, "("+s+")+("+s+")", bin(1, n, n))
		accept(t, "ABS(("+s+"))", ask(fname.Abs, n))
		accept(t, "-("+s+")", neg(n))
		refuse(t, form, "("+s, s+")", "(("+s+")", "("+s+"))", "()"+s, s+"()()", ")"+s, s+"(", ")"+s+"(", "("+s+")("+s+")", "("+s+"+)", "(+"+s+")", "(,"+s+")", "("+s+",)", "("+s+","+s+")", "("+s+":"+s+")")
		refuse(t, form, "SUM("+s, "SUM("+s+"))", "SUM(("+s+")", "(SUM("+s+")", "SUM"+s+")")
	}
	refuse(t, form, "(", ")", "()", ")(", "(()", "())", "((", "))", "1()", "()1", "()()", "(1)()", "()(1)", "(1)(2)", "1(2)", "(1)2", "1(", "(1", "1)")
	for n := range 100 {
		accept(t, rep("(", n)+"1"+rep(")", n), num(1))
		refuse(t, form, rep("(", n+1)+"1"+rep(")", n), rep("(", n)+"1"+rep(")", n+1), rep("(", n)+rep(")", n), rep("(", n), rep(")", n))
	}
	refuse(t, long, rep("(", 100)+"1"+rep(")", 100))
}

// P23.1: calls.

func TestCalls(t *testing.T) {
	accept(t, "NA()", ask(fname.Na))
	accept(t, "NA ( )", ask(fname.Na))
	accept(t, "ABS(1)", ask(fname.Abs, num(1)))
	accept(t, "MOD(1,2)", ask(fname.Mod, num(1), num(2)))
	accept(t, "MID(1,2,3)", ask(fname.Mid, num(1), num(2), num(3)))
	accept(t, "SUM(1,2,3,4,5,6,7,8)", ask(fname.Sum, num(1), num(2), num(3), num(4), num(5), num(6), num(7), num(8)))
	accept(t, "SUM(SUM(1,2),SUM(3))", ask(fname.Sum, ask(fname.Sum, num(1), num(2)), ask(fname.Sum, num(3))))
	accept(t, "SUM(1+2,3=4)", ask(fname.Sum, bin(1, num(1), num(2)), bin(7, num(3), num(4))))
	accept(t, "SUM(1)+SUM(2)", bin(1, ask(fname.Sum, num(1)), ask(fname.Sum, num(2))))
	accept(t, "SUM(NA(),NA())", ask(fname.Sum, ask(fname.Na), ask(fname.Na)))
	accept(t, "IF(A1,B1,C1)", ask(fname.If, at(0, 0), at(0, 1), at(0, 2)))
	accept(t, "IF(A1,B1)", ask(fname.If, at(0, 0), at(0, 1)))
	accept(t, "SUM (1)", ask(fname.Sum, num(1)))
	accept(t, "SUM"+rep(" ", 194)+"(1)", ask(fname.Sum, num(1)))
	accept(t, "ABS(-1)^2", bin(5, ask(fname.Abs, neg(num(1))), num(2)))
	refuse(t, form, "SUM(1;2)", "SUM 1", "SUM[1]", "SUM(1 2)", "SUM(1)(2)", "SUM(1)2", "SUM(1)A1", "SUMSUM", "SUM SUM(1)", "SU M(1)", "SUM((1,2))", "SUM((1),2")
}

func TestCommas(t *testing.T) {
	for _, one := range []string{"1", "A1", "A1:B2", "#REF", `"x"`, "NA()", "-1", "1+2", "(1)", "SUM(1,2)"} {
		refuse(t, form, "SUM(,"+one+")", "SUM("+one+",)", "SUM("+one+",,"+one+")", "SUM(,)", "SUM(,,)", "SUM(,"+one, "SUM("+one+",", "SUM("+one, ","+one, one+",", one+","+one, "("+one+","+one+")", "SUM(("+one+","+one+"))", "SUM("+one+"),", ",SUM("+one+")", "SUM,("+one+")", "SUM("+one+",("+one+",1))")
		s := one
		for range 7 {
			holdParse(t, "SUM("+s+")")
			refuse(t, 0, "SUM("+s+")")
			refuse(t, form, "SUM("+s+",)", "SUM(,"+s+")", "SUM("+s+",,1)", "SUM("+s)
			s += "," + one
		}
	}
	refuse(t, form, "NA(,)", "NA(,", "NA(", "NA)", "TRUE,FALSE")
}

func TestMoreArgumentsThanAny(t *testing.T) {
	for many := range 97 {
		s := "SUM(1" + rep(",1", many) + ")"
		if many < 8 {
			refuse(t, 0, s)
		} else {
			refuse(t, name, s)
		}
		refuse(t, form, "SUM(1"+rep(",1", many)+",)", "SUM(1"+rep(",1", many))
	}
}

// P23.1: ranges.

func TestRanges(t *testing.T) {
	accept(t, "SUM(A1:B2)", ask(fname.Sum, area(ref(0, 0), ref(1, 1))))
	accept(t, "SUM(B2:A1)", ask(fname.Sum, area(ref(1, 1), ref(0, 0))))
	accept(t, "SUM(A2:B1)", ask(fname.Sum, area(ref(1, 0), ref(0, 1))))
	accept(t, "SUM(A1:A1)", ask(fname.Sum, area(ref(0, 0), ref(0, 0))))
	accept(t, "SUM(A1:ZZ999)", ask(fname.Sum, area(ref(0, 0), ref(998, 701))))
	accept(t, "SUM( A1 : B2 )", ask(fname.Sum, area(ref(0, 0), ref(1, 1))))
	accept(t, "SUM($A1:B$2)", ask(fname.Sum, area(api.Ref{HoldCol: true}, api.Ref{Row: 1, Col: 1, HoldRow: true})))
	accept(t, "SUM(A$1:$B2)", ask(fname.Sum, area(api.Ref{HoldRow: true}, api.Ref{Row: 1, Col: 1, HoldCol: true})))
	accept(t, "SUM($A$1:$B$2)", ask(fname.Sum, area(api.Ref{HoldRow: true, HoldCol: true}, api.Ref{Row: 1, Col: 1, HoldRow: true, HoldCol: true})))
	accept(t, "SUM(A1:B2,C3:D4)", ask(fname.Sum, area(ref(0, 0), ref(1, 1)), area(ref(2, 2), ref(3, 3))))
	accept(t, "SUM(1,A1:B2,1)", ask(fname.Sum, num(1), area(ref(0, 0), ref(1, 1)), num(1)))
	accept(t, "SUM(A1:B2)+1", bin(1, ask(fname.Sum, area(ref(0, 0), ref(1, 1))), num(1)))
	accept(t, "SUM(A1,B2)", ask(fname.Sum, at(0, 0), at(1, 1)))
	accept(t, "SUM((A1),B2)", ask(fname.Sum, at(0, 0), at(1, 1)))
}

func TestRangesWhereNoneMayStand(t *testing.T) {
	r := "A1:B2"
	refuse(t, form, r, "("+r+")", "-"+r, r+"+1", "1+"+r, r+"&"+r, r+"="+r, "SUM(("+r+"))", "SUM(-"+r+")", "SUM("+r+"+1)", "SUM(1+"+r+")", "SUM(1*"+r+",2)", "SUM("+r+"^2)", "SUM("+r+"="+r+")", "SUM(("+r+"),1)", "SUM(1,("+r+"))", "SUM("+r+" 1)", "SUM(1 "+r+")")
	refuse(t, form, "SUM(A1:B2:C3)", "SUM(A1:B2:C3:D4)", "SUM(A1::B2)", "SUM(:)", "SUM(:A1)", "SUM(A1:)", "SUM(A1:,1)", "SUM(1,:A1)", "SUM(A1:", "SUM(A1:B2", ":", "A1:", ":A1", "::", "SUM:A1", "A1:SUM(1)", "A1(1):B2")
	for _, no := range []string{"1", `"A1"`, "TRUE", "#REF", "SUM", "X", "SUM(1)", "NA()", "(A1)", "-A1", "A1000", "AAA1", "A0", "$", "$A", "A$", "A", "1A", "A1+1", "1+A1", "A1:B2", ",", ")", "(", ""} {
		refuse(t, form, "SUM("+no+":B2)", "SUM(A1:"+no+")", "SUM("+no+":"+no+")", "SUM(1,"+no+":B2)", "SUM(A1:"+no+",1)")
	}
	for _, s := range []string{"SUM(A1:B2(1))", "SUM(A1:B2())", "SUM(A1(1):B2)", "SUM(A1():B2)"} {
		refuse(t, form, s)
		holdParse(t, s)
	}
	refuse(t, name, "ABS(A1:B2)", "IF(A1:B2,1)", "NOT(A1:B2)", "X(A1:B2)", "AND(A1:B2)", "DECLASS(A1:B2,\"0\")", "DECLASS(A1,A1:B2)", "NA(A1:B2)")
}

// P23.1: names.

func TestNamesOfNoFunction(t *testing.T) {
	for _, w := range []string{"X", "SUMS", "SU", "SUM1", "SUM$", "$SUM", "ABSX", "XABS", "A1", "$A$1", "A1000", "ZZZ", "$", "$$", "TRUE", "FALSE", "AVERAGES", "LOG10", "SUMABS", "SUMIFS", "REF", "N", "A", "ZZ999", "IFF", "NAN", "NA1"} {
		refuse(t, name, w+"()", w+"(1)", w+" (1)", w+"(1,2,3)", w+"(A1:B2)", "1+"+w+"(1)", "-"+w+"()", "SUM("+w+"(1))", "ABS(1+"+w+"())", "("+w+"())", w+"("+w+"())", "IF(1,2,"+w+"(1))", "IFERROR("+w+"(),1)")
		refuse(t, form, w+"(", w+"(1", w+"(,)", w+"(1,)", w+"(1))", w+")", w+"()()", w+"(A1:)", w+"("+w+"(,))")
		if _, cell := refByWords(w); !cell && w != "TRUE" && w != "FALSE" {
			refuse(t, form, w, "1+"+w, "-"+w, "("+w+")", "SUM("+w+")", "SUM(1,"+w+")", "SUM("+w+":B2)", w+"+1")
		}
	}
	refuse(t, form, "sum(1)", "Sum(1)", "abs(1)")
}

func TestFunctionsWithoutBrackets(t *testing.T) {
	for fn := 1; fn <= fname.Last; fn++ {
		w := fname.Name(fn)
		refuse(t, form, w, "1+"+w, w+"+1", "-"+w, "("+w+")", "SUM("+w+")", "SUM(1,"+w+",2)", w+" "+w, w+" 1", w+")", w+"(", w+"(1", "SUM("+w+":A1)")
		refuse(t, name, w+"X()", w+"X(1)", "Q"+w+"(1,2)", w+"1(1)", "$"+w+"(1)", w+"$(1)", w+"$1(A1:B2)")
	}
}

// taken is a text that may be an argument of a kind.
func taken(kind byte) string {
	switch kind {
	case 'r':
		return "A1:B2"
	case 'n':
		return "A1"
	case 't':
		return `"2:0"`
	}
	return "1"
}

// takenNode is the node of such a text.
func takenNode(kind byte) api.Node {
	switch kind {
	case 'r':
		return area(ref(0, 0), ref(1, 1))
	case 'n':
		return at(0, 0)
	case 't':
		return str("2:0")
	}
	return num(1)
}

// argumentsOf is as many texts that a function may have, and their nodes.
func argumentsOf(fn, many int) ([]string, []api.Node) {
	texts, nodes := []string{}, []api.Node{}
	for i := range many {
		texts, nodes = append(texts, taken(fname.Kind(fn, i))), append(nodes, takenNode(fname.Kind(fn, i)))
	}
	return texts, nodes
}

// called is a call's text.
func called(fn int, args []string) string {
	return fname.Name(fn) + "(" + strings.Join(args, ",") + ")"
}

func TestHowManyArguments(t *testing.T) {
	for fn := 1; fn <= fname.Last; fn++ {
		for many := range 12 {
			texts, nodes := argumentsOf(fn, many)
			s := called(fn, texts)
			if fname.Fits(fn, many) {
				accept(t, s, ask(fn, nodes...))
				accept(t, "1+"+s, bin(1, num(1), ask(fn, nodes...)))
			} else {
				refuse(t, name, s, "-"+s, "SUM(1,"+s+")", "("+s+")", "1="+s)
			}
			holdParse(t, s)
		}
	}
	// By hand, about what the table tells.
	refuse(t, 0, "NA()", "ABS(1)", "IF(1,2)", "IF(1,2,3)", "SWITCH(1,2,3)", "SWITCH(1,2,3,4,5,6,7,8)", "CHOOSE(1,2)", "INDEX(A1:B2,1)", "INDEX(A1:B2,1,1)", "AND(1)", "MID(1,2,3)")
	refuse(t, name, "NA(1)", "ABS()", "ABS(1,2)", "IF(1)", "IF()", "IF(1,2,3,4)", "SWITCH(1,2)", "SWITCH(1,2,3,4,5,6,7,8,9)", "CHOOSE(1)", "INDEX(A1:B2)", "INDEX(A1:B2,1,1,1)", "AND()", "SUM()", "SUM(1,2,3,4,5,6,7,8,9)", "MID(1,2)", "MID(1,2,3,4)", "DECLASS(A1)", "DECLASS(A1,\"0\",\"0\")", "XOR()")
}

// argumentTexts is texts of arguments, and the kinds that take them.
func argumentTexts() map[string]string {
	return map[string]string{
		"1": "vle", "-1": "vle", `"a"`: "vle", `"2:0"`: "vlet", `"top"`: "vlet", `"0"`: "vlet", `"16"`: "vle", `("0")`: "vlet", `"2:"&"0"`: "vle", `-"0"`: "vle",
		"TRUE": "vle", "#REF": "vlern", "(#REF)": "vlern", "A1": "vlern", "$A$1": "vlern", "(A1)": "vlern", "((A1))": "vlern", "-A1": "vle", "A1+0": "vle", "A1:B2": "lrn", "B$2:$A1": "lrn", "A1:A1": "lrn", "NA()": "vle", "SUM(A1:B2)": "vle", "1=2": "vle",
	}
}

func TestArgumentsOfEachKind(t *testing.T) {
	for fn := 1; fn <= fname.Last; fn++ {
		for many := range 9 {
			if !fname.Fits(fn, many) {
				continue
			}
			for place := range many {
				for one, kinds := range argumentTexts() {
					texts, _ := argumentsOf(fn, many)
					texts[place] = one
					want := name
					if strings.IndexByte(kinds, fname.Kind(fn, place)) >= 0 {
						want = 0
					}
					refuse(t, want, called(fn, texts))
					holdParse(t, called(fn, texts))
				}
			}
		}
	}
}

func TestArgumentsByHand(t *testing.T) {
	accept(t, `DECLASS(A1,"0")`, ask(fname.Declass, at(0, 0), str("0")))
	accept(t, `DECLASS(A1+1,("15:0,63"))`, ask(fname.Declass, bin(1, at(0, 0), num(1)), str("15:0,63")))
	accept(t, "ROW((A1))", ask(fname.Row, at(0, 0)))
	accept(t, "VLOOKUP(1,A1,2)", ask(fname.Vlookup, num(1), at(0, 0), num(2)))
	accept(t, "MATCH(A1,A1:B2)", ask(fname.Match, at(0, 0), area(ref(0, 0), ref(1, 1))))
	refuse(t, name, `DECLASS(A1,0)`, `DECLASS(A1,"")`, `DECLASS(A1,"16")`, `DECLASS(A1,"2:1,0")`, `DECLASS(A1,"TOP")`, `DECLASS(A1,B1)`, `DECLASS(A1,TRUE)`, `DECLASS(A1," 0")`, `DECLASS("0",A1)`, `DECLASS(A1:B2,"0")`)
	refuse(t, name, "ROW(1)", "ROW(-A1)", "ROW(A1+0)", "ROW(ROW(A1))", "ROWS(\"A1\")", "VLOOKUP(1,2,3)", "VLOOKUP(A1:B2,A1:B2,1)", "VLOOKUP(1,A1:B2,A1:B2)", "MATCH(A1:B2,A1)", "MATCH(A1,1)", "COUNTIF(1,1)", "COUNTIF(A1,A1:B2)", "SUMPRODUCT(A1:B2,1)", "INDEX(1,1)")
}

func TestWrongBelow(t *testing.T) {
	for _, bad := range []string{"X()", "ABS()", "ABS(1,2)", "ABS(A1:B2)", "ROW(1)", "DECLASS(A1,\"x\")", "SUM()", "TRUE()", "A1(1)"} {
		refuse(t, name, bad, "-"+bad, "--"+bad, bad+"+1", "1+"+bad, "1+2*"+bad, "1*"+bad+"+3", "("+bad+")", "SUM(A1:B2,"+bad+")", "SUM("+bad+",A1:B2)", "IF(1,"+bad+",2)", "IF("+bad+",1)", "NOT(NOT(NOT("+bad+")))", "1^-"+bad, bad+"="+bad)
	}
}

// P23.1: cells.

// ways is a cell's text in each way of holding, and its node.
func ways(col, row string, c api.Ref) map[string]api.Ref {
	return map[string]api.Ref{
		col + row:             c,
		"$" + col + row:       {Row: c.Row, Col: c.Col, HoldCol: true},
		col + "$" + row:       {Row: c.Row, Col: c.Col, HoldRow: true},
		"$" + col + "$" + row: {Row: c.Row, Col: c.Col, HoldRow: true, HoldCol: true},
	}
}

// askCell asks that a cell is read in each way of holding.
func askCell(t *testing.T, col, row string, c api.Ref) {
	t.Helper()
	for s, want := range ways(col, row, c) {
		if got, is := Ref(s); !is || got != want {
			t.Errorf("Ref(%q): %v, %v; not %v", s, got, is, want)
		}
		holdRef(t, s)
		accept(t, s, api.Node{Kind: 3, A: want})
		accept(t, "SUM("+s+":B2,A1:"+s+")", ask(fname.Sum, area(want, ref(1, 1)), area(ref(0, 0), want)))
	}
}

// letters is a column's.
func letters(col int) string {
	if col < 26 {
		return string(rune('A' + col))
	}
	return string(rune('A'+col/26-1)) + string(rune('A'+col%26))
}

func TestCells(t *testing.T) {
	for col := range 702 {
		for _, row := range []int{0, 41, 998} {
			askCell(t, letters(col), strconv.Itoa(row+1), ref(row, col))
		}
	}
	for row := range 999 {
		for _, col := range []int{0, 25, 26, 500, 701} {
			askCell(t, letters(col), strconv.Itoa(row+1), ref(row, col))
		}
	}
}

// noCells is texts that are no cell's, but tokens: words mostly.
func noCells() []string {
	return strings.Fields("A $ $$ $A A$ $A$ $$A1 A$$1 $A$$1 $$A$1 A1$ $A1$ $A$1$ A$1$ A0 A00 A01 A001 $A$01 A$0 A1000 A9999 A1001 AAA1 AAA999 ZZZ1 ABC1 AZA1 $AAA$1 A1A A1A1 A1B2 $A$1$B$2 1A AA ZZ XFD1 A$A1 AB$C1 A1$1 A99999999999999999999 A18446744073709551617 A4294967297 A65537 B0 ZZ0 ZZ1000 TRUE1 SUM1 $SUM R1C1 ZZ$1000 $AAA1 A$$ $$1 $A$A$1 A1$A1")
}

func TestWhatIsNoCell(t *testing.T) {
	for _, s := range append(noCells(), "1", "999", `"A1"`, "#REF", "TRUE", "SUM", "A1:B2", "A1 B2", "(A1)", "-A1", "A1+1", "$1", "$ A1", "$A $1", "A 1", "A$ 1", "$1$A", "a1", "A-1", "A+1", "A1.5", "A1.", "A.1") {
		if got, is := Ref(s); is || got != (api.Ref{}) {
			t.Errorf("Ref(%q): %v, %v", s, got, is)
		}
		holdParse(t, s)
		holdRef(t, s)
	}
	for _, s := range noCells() {
		refuse(t, form, s, "1+"+s, "("+s+")", "SUM("+s+")", "SUM("+s+":A1)", "SUM(A1:"+s+")", "-"+s, s+" A1", s+"=1")
	}
}

// P23.1: which error comes first.

func TestWhichErrorComesFirst(t *testing.T) {
	tooLong := rep(" ", 201)
	deeper := rep("-", 12) + "1"
	refuse(t, deep, deeper)
	// Too long, and anything besides.
	refuse(t, long, "1"+tooLong, "1+"+tooLong, ")"+tooLong, "X()"+tooLong, "ABS()"+tooLong, deeper+tooLong, "#"+tooLong, tooLong+`"`, "a"+tooLong, rep("-", 200)+"1", rep("1+", 100)+"1", rep("(", 201), rep("X(", 100)+")", rep(")", 201), rep("ABS(", 50)+"1"+rep(")", 50), rep("9", 201))
	// No tokens, and a name or a depth besides.
	refuse(t, form, "X()#", "#X()", "ABS()a", deeper+"#", "."+deeper, "X("+deeper+")#")
	// No formula, and a name besides: ahead, behind and within.
	refuse(t, form, "X()+", "+X()", "X(", "X(,)", "(X()", "X())", "X() 1", "1 X()", "X(1,)", "X(Y(,))", "ABS(A1:B2)+", "ABS()(", ")ABS()", "ABS(,)", "ABS(1,2,)", "1+X()+", "X():A1", "SUM(X():A1)", "ROW(1", "DECLASS(A1,)", "X(SUM(1,))", "A1(,)", "TRUE(1")
	// No formula, and a depth besides.
	refuse(t, form, deeper+"+", "+"+deeper, "("+deeper, deeper+")", deeper+" 1", "1 ("+deeper+")", "SUM("+deeper+",)", rep("-", 199)+"+", rep("-", 200), rep("1+", 100), rep("(", 200), "SUM(1,,"+deeper+")", deeper+":A1", rep("ABS(", 40)+"1"+rep(")", 39), rep("ABS(", 32)+"1"+rep(")", 33))
	// A name and a depth.
	refuse(t, name, "X("+deeper+")", deeper+"+X()", "X()+"+deeper, "ABS("+deeper+",1)", "ABS()+"+deeper, "SUM("+deeper+",ABS(A1:B2))", rep("-", 20)+"X()", rep("-", 195)+"X(1)", rep("ABS(", 20)+"X()"+rep(")", 20), rep("X(", 20)+"1"+rep(")", 20), "1+"+rep("-", 20)+"ROW(1)", "ROW("+deeper+")", "DECLASS("+deeper+",\"x\")", rep("1+", 20)+"ABS()", "ABS()"+rep("+1", 20))
	// All at once: form comes ahead of name and depth.
	refuse(t, form, "X("+deeper+")+", "X("+deeper, deeper+"+X()+", deeper+" X()", "(X()+"+deeper)
}

// P23.1: depth.

// askDeep asks that a text is refused just if its node is deeper than may be.
func askDeep(t *testing.T, s string, want int) {
	t.Helper()
	got, err := Parse(s)
	if want <= 12 && (err != 0 || deepByWords(got) != want) {
		t.Errorf("Parse(%q): %d deep, %d; not %d deep", s, deepByWords(got), err, want)
	}
	if want > 12 && err != deep {
		t.Errorf("Parse(%q): %v, %d; it is %d deep", s, got, err, want)
	}
	holdLaws(t, s, got, err)
	holdParse(t, s)
}

func TestDepthBySigns(t *testing.T) {
	for n := range 30 {
		for _, one := range []string{"1", "A1", `"a"`, "TRUE", "#REF", "NA()", "(1)"} {
			askDeep(t, rep("-", n)+one, n+1)
			askDeep(t, rep("-(", n)+one+rep(")", n), n+1)
		}
		askDeep(t, rep("-", n)+"SUM(A1:B2)", n+2)
		askDeep(t, rep("-", n)+"1+1", n+2)
		askDeep(t, "1+"+rep("-", n)+"1", n+2)
		askDeep(t, "SUM(1,"+rep("-", n)+"1,A1:B2)", n+2)
		askDeep(t, "SUM(1,1,1,1,1,1,1,"+rep("-", n)+"1)", n+2)
		askDeep(t, rep("-", n)+"1+"+rep("-", n/2)+"1", n+2)
		askDeep(t, rep("-", n/2)+"1+"+rep("-", n)+"1", n+2)
	}
	askDeep(t, rep("-", 199)+"1", 200)
}

func TestDepthByOperators(t *testing.T) {
	for _, sign := range allOperators() {
		for n := range 20 {
			askDeep(t, rep("1"+sign, n)+"1", n+1)
			askDeep(t, rep("1"+sign+"(", n)+"1"+rep(")", n), n+1)
			askDeep(t, rep("(", n)+"1"+rep(sign+"1)", n), n+1)
			askDeep(t, "(1"+rep(sign+"1", n)+")"+sign+"(1"+rep(sign+"1", n/2)+")", n+2)
		}
	}
	for n := range 12 {
		askDeep(t, "1=2&3+4*5^6"+rep("-1", n), max(6, 3+n+3))
	}
	askDeep(t, rep("1+", 99)+"1", 100)
	// Many nodes, but none deep.
	askDeep(t, "((1+1)*(1+1))^((1+1)*(1+1))&((1+1)*(1+1))^((1+1)*(1+1))", 5)
}

func TestDepthByCalls(t *testing.T) {
	for n := range 25 {
		askDeep(t, rep("ABS(", n)+"1"+rep(")", n), n+1)
		askDeep(t, rep("SUM(1,", n)+"1"+rep(")", n), n+1)
		askDeep(t, rep("SUM(", n)+"1"+rep(",1)", n), n+1)
		askDeep(t, rep("SUM(", n)+"NA()"+rep(")", n), n+1)
		askDeep(t, rep("SUM(", n+1)+"A1:B2"+rep(")", n+1), n+2)
		askDeep(t, rep("-ABS(", n)+"1"+rep(")", n), 2*n+1)
		askDeep(t, rep("IF(1,2,", n)+"A1"+rep(")", n), n+1)
	}
}

func TestBracketsAreNotDeep(t *testing.T) {
	for n := range 90 {
		askDeep(t, rep("(", n)+"1"+rep(")", n), 1)
		askDeep(t, rep("(", n)+rep("-", 11)+"1"+rep(")", n), 12)
		askDeep(t, rep("(", n)+rep("-", 12)+"1"+rep(")", n), 13)
		askDeep(t, rep("-", 11)+rep("(", n)+"1"+rep(")", n), 12)
		askDeep(t, rep("-", 12)+rep("(", n)+"1"+rep(")", n), 13)
		askDeep(t, "ABS("+rep("(", n)+"1"+rep(")", n)+")", 2)
	}
	for n := range 14 {
		askDeep(t, rep("(-(", n)+"1"+rep("))", n), n+1)
		askDeep(t, rep("((-((", n)+"1"+rep("))))", n), n+1)
		askDeep(t, rep("((1+", n)+"1"+rep("))", n), n+1)
		askDeep(t, rep("ABS((", n)+"1"+rep("))", n), n+1)
	}
}

func TestDeepAndNotRight(t *testing.T) {
	for n := range 30 {
		refuse(t, name, rep("-", n)+"X()", rep("-", n)+"ABS()", rep("-", n)+"ROW(1)", rep("1+", n)+"X(1)", rep("ABS(", n)+"ABS(A1:B2)"+rep(")", n), rep("X(", n+1)+"1"+rep(")", n+1), "X()"+rep("+1", n), "SUM("+rep("-", n)+"1,ABS())")
	}
}

// P23.2: Ref.

func TestRef(t *testing.T) {
	for s, want := range map[string]api.Ref{
		"A1": ref(0, 0), "$A$1": {HoldRow: true, HoldCol: true}, "$A1": {HoldCol: true}, "A$1": {HoldRow: true},
		"AB12": ref(11, 27), "Z26": ref(25, 25), "AA27": ref(26, 26), "AZ1": ref(0, 51), "BA1": ref(0, 52),
		"ZZ999": ref(998, 701), "$ZZ999": {Row: 998, Col: 701, HoldCol: true}, "ZZ$999": {Row: 998, Col: 701, HoldRow: true}, "$ZZ$999": {Row: 998, Col: 701, HoldRow: true, HoldCol: true},
		"A999": ref(998, 0), "$A$999": {Row: 998, HoldRow: true, HoldCol: true}, "ZZ1": ref(0, 701), "ZZ$1": {Col: 701, HoldRow: true}, "NA1": ref(0, 13*26+26+0), "IF2": ref(1, 8*26+26+5), "OR3": ref(2, 14*26+26+17),
	} {
		if got, is := Ref(s); !is || got != want {
			t.Errorf("Ref(%q): %v, %v; not %v", s, got, is, want)
		}
		holdRef(t, s)
	}
}

// noRefs is texts that are no cell's, also such as are no token's.
func noRefs() []string {
	l := []string{"", " ", " A1", "A1 ", " A1 ", "A 1", "$ A1", "$A $1", "$A$ 1", "A1\n", "\nA1", "A1\x00", "\x00A1", "a1", "$a$1", "aB1", "Ab1", "A1:B2", "A1:", ":A1", "A1,B2", "A1B2", "A1 B2", "A1A1", "(A1)", "-A1", "+A1", "A-1", "A+1", "A$-1", "A$+1", "A1.", "A1.0", "A1,0", "A 01", "1", "12", "1A", "12AB", "TRUE", "FALSE", "SUM", "SUM()", "NA()", "#REF", "\u00c41", "A\u0661", "A\u00b2", "\u0391" + "1", "A\uff11", "\uff211", "A1\u00a0", "A1\ufeff", `"A1"`, "'A1'", "A!1", "R[1]C[1]", "#A1", "A#1", "A1#", "A0x1", "A1e1", "A1_0", "A_1", "\xffA1", "A\xff1", "A1\xff", "[1", "@1", "A:", "A/1", rep("A", 1000) + "1", "A" + rep("1", 1000), rep("$", 1000) + "A1", rep("A1", 1000), "A" + rep("0", 1000) + "1"}
	return append(l, noCells()...)
}

func TestNoRef(t *testing.T) {
	for _, s := range noRefs() {
		if got, is := Ref(s); is || got != (api.Ref{}) {
			t.Errorf("Ref(%.80q): %v, %v", s, got, is)
		}
		holdRef(t, s)
	}
}

// refTexts is the text of each corner and of some edges, in each way of holding.
func refTexts() []string {
	l := []string{}
	for _, col := range []string{"A", "B", "Z", "AA", "AZ", "BA", "ZY", "ZZ"} {
		for _, row := range []string{"1", "2", "9", "10", "99", "100", "500", "998", "999"} {
			l = append(l, col+row, "$"+col+row, col+"$"+row, "$"+col+"$"+row)
		}
	}
	return l
}

func TestRefsWithAByteMore(t *testing.T) {
	for _, s := range refTexts() {
		if !holdRef(t, s) {
			t.Errorf("%q is a cell's text", s)
		}
		for b := range 256 {
			w := string([]byte{byte(b)})
			for place := range len(s) + 1 {
				holdRef(t, s[:place]+w+s[place:])
				if place < len(s) {
					holdRef(t, s[:place]+w+s[place+1:])
				}
			}
		}
		for place := range s {
			holdRef(t, s[:place])
			holdRef(t, s[place:])
			holdRef(t, s[:place]+s[place+1:])
		}
		holdRef(t, strings.ToLower(s))
		holdRef(t, s+s)
	}
}

func TestShortTexts(t *testing.T) {
	for many := range 7 {
		eachRow(strings.Split("$ A Z 0 1 9 a", " "), many, func(row []string) { holdRef(t, strings.Join(row, "")) })
	}
	for b := range 256 {
		for c := range 256 {
			holdRef(t, string([]byte{byte(b), byte(c)}))
			holdRef(t, string([]byte{byte(b), 'B', byte(c)}))
			holdRef(t, string([]byte{byte(b), byte(c), '7'}))
		}
	}
}

// TestRefsAndFormulas holds that a Word is a cell in a formula just if Ref has it.
func TestRefsAndFormulas(t *testing.T) {
	for many := range 6 {
		eachRow(strings.Split("$ A Z 0 1 9", " "), many, func(row []string) {
			s := "A" + strings.Join(row, "")
			want, is := Ref(s)
			got, err := Parse(s)
			if is != (err == 0) || is && !same(got, api.Node{Kind: 3, A: want}) || !is && err != form {
				t.Errorf("Ref(%q): %v, %v; Parse: %v, %d", s, want, is, got, err)
			}
		})
	}
}

// P23.3: what follows.

// askSame asks that two texts are parsed the same way, or refused with the same error.
func askSame(t *testing.T, a, b string) {
	t.Helper()
	n, e := Parse(a)
	m, f := Parse(b)
	if e != f || !same(n, m) {
		t.Errorf("Parse(%q): %v, %d; of %q: %v, %d", a, n, e, b, m, f)
	}
}

func TestSomeFormulas(t *testing.T) {
	for s, n := range someFormulas() {
		accept(t, s, n)
		holdParse(t, s)
		if !node.Formula(n) {
			t.Errorf("%v is no formula", n)
		}
	}
}

func TestBracketsAroundTheWhole(t *testing.T) {
	l := []string{"X()", "ABS(A1:B2)", rep("-", 12) + "1", rep("-", 20) + "X()", "1+", "", "1 1"}
	for s := range someFormulas() {
		l = append(l, s)
	}
	for _, s := range l {
		for n := 1; 2*n+len(s) <= 200; n++ {
			askSame(t, s, rep("(", n)+s+rep(")", n))
			if 4*n+len(s) <= 200 {
				askSame(t, s, rep("( ", n)+s+rep(" )", n))
			}
		}
	}
}

// spaced is a text with so many blanks ahead of each token, and of the End; one token alone, if its place is not below 0.
func spaced(s string, many, alone int) string {
	l, _, _ := lex.Lex(s)
	more, done := "", 0
	for i, one := range l {
		more += s[done:one.At]
		if alone < 0 || i == alone {
			more += rep(" ", many)
		}
		done = one.At
	}
	return more
}

// holdBlanks holds that more blanks between tokens change nothing.
func holdBlanks(t *testing.T, s string) {
	t.Helper()
	l, _, e := lex.Lex(s)
	if e != 0 {
		return
	}
	for many := 1; many <= 200-len(s); many = 1 + 2*many {
		if more := spaced(s, many, -1); len(more) <= 200 {
			askSame(t, s, more)
		}
		for i := range l {
			askSame(t, s, spaced(s, many, i))
		}
	}
	for i := range l {
		askSame(t, s, spaced(s, 200-len(s), i))
	}
}

func TestBlanksBetweenTokens(t *testing.T) {
	for s := range someFormulas() {
		holdBlanks(t, s)
		holdBlanks(t, "("+s+")*2")
		holdBlanks(t, s+")")
	}
	for _, s := range []string{"X()", "ABS(A1:B2)", "SUM(A1:B2,C3:$D$4)<>-(1+2)^3", rep("-", 12) + "1", "1+", "SUM(,)", "TRUE(1)", "A1(1)", "SUM(A1:)", "((1)"} {
		holdBlanks(t, s)
	}
	accept(t, " 1", num(1))
	accept(t, "1 ", num(1))
	accept(t, " SUM ( A1 : B2 , - 3 ) ", ask(fname.Sum, area(ref(0, 0), ref(1, 1)), neg(num(3))))
	// Within a token blanks are another matter.
	refuse(t, form, "A 1", "$ A1", "A$ 1", "1 2", "SU M(1)", "TR UE", "# REF", "1 .5", "1. 5", "1< >2", "1< =2", "1> =2", `" "" `)
	accept(t, `" a  b "`, str(" a  b "))
}

// chance makes formulas by chance, each with its text.
type chance struct{ r *rand.Rand }

// blanks is some blanks, mostly none.
func (c chance) blanks() string { return rep(" ", max(0, c.r.Intn(9)-6)) }

// ref is a reference, and its text.
func (c chance) ref() (string, api.Ref) {
	x := api.Ref{Row: c.r.Intn(999), Col: c.r.Intn(702), HoldRow: c.r.Intn(3) == 0, HoldCol: c.r.Intn(3) == 0}
	s := letters(x.Col)
	if x.HoldCol {
		s = "$" + s
	}
	if x.HoldRow {
		s += "$"
	}
	return s + strconv.Itoa(x.Row+1), x
}

// atom is an atom without brackets, and its text.
func (c chance) atom() (string, api.Node) {
	switch c.r.Intn(6) {
	case 0:
		x := int64(c.r.Intn(50))
		return strconv.Itoa(int(x)), num(x)
	case 1:
		return `"a""b"`, str(`a"b`)
	case 2:
		return "TRUE", truth(1)
	case 3:
		return "#REF", lost()
	}
	s, x := c.ref()
	return s, api.Node{Kind: 3, A: x}
}

// tight is how tightly an operator binds: as the document has it.
func tight(op int) int { return []int{0, 3, 3, 4, 4, 5, 2, 1, 1, 1, 1, 1, 1}[op] }

// tree is a node, at most so deep, its text, and how tightly that binds.
func (c chance) tree(most int) (string, api.Node, int) {
	if most <= 1 {
		s, n := c.atom()
		return s, n, 7
	}
	switch c.r.Intn(4) {
	case 0:
		s, n := c.inside(most-1, 6)
		return "-" + c.blanks() + s, neg(n), 6
	case 1:
		s, n := c.call(most)
		return s, n, 7
	}
	op := 1 + c.r.Intn(12)
	a, x := c.inside(most-1, tight(op))
	b, y := c.inside(most-1, tight(op)+1)
	return a + c.blanks() + allOperators()[op-1] + c.blanks() + b, bin(op, x, y), tight(op)
}

// inside is a node that binds so tightly, or stands in brackets.
func (c chance) inside(most, least int) (string, api.Node) {
	s, n, binds := c.tree(most)
	for binds < least || c.r.Intn(10) == 0 {
		s, binds = "("+c.blanks()+s+c.blanks()+")", 7
	}
	return s, n
}

// call is a call of a function of lists, and its text.
func (c chance) call(most int) (string, api.Node) {
	fn := []int{fname.Sum, fname.Max, fname.Concat, fname.Xor}[c.r.Intn(4)]
	texts, n := []string{}, ask(fn)
	for range 1 + c.r.Intn(3) {
		s, x := "", api.Node{}
		if c.r.Intn(3) == 0 {
			a, from := c.ref()
			b, to := c.ref()
			s, x = a+c.blanks()+":"+c.blanks()+b, area(from, to)
		} else {
			s, x = c.inside(most-1, 0)
		}
		texts, n.L = append(texts, c.blanks()+s+c.blanks()), append(n.L, x)
	}
	return fname.Name(fn) + c.blanks() + "(" + strings.Join(texts, ",") + ")", n
}

// holdChance holds Parse against a formula by chance; and tells its text, and whether it is short and flat enough.
func holdChance(t *testing.T, c chance, most int) (string, bool) {
	t.Helper()
	s, n, _ := c.tree(most)
	switch {
	case len(s) > 200:
		refuse(t, long, s)
	case deepByWords(n) > 12:
		refuse(t, deep, s)
	default:
		accept(t, s, n)
		return s, true
	}
	return s, false
}

func TestFormulasByChance(t *testing.T) {
	c := chance{rand.New(rand.NewSource(23))}
	good := 0
	for range 10000 {
		s, is := holdChance(t, c, 1+c.r.Intn(6))
		if !is {
			continue
		}
		good++
		if len(s) < 80 {
			holdParse(t, s)
			if good%10 == 0 {
				holdBlanks(t, s)
			}
			// A byte taken out, or put in, anywhere.
			place := c.r.Intn(len(s))
			holdParse(t, s[:place]+s[place+1:])
			holdParse(t, s[:place]+string("()+-,:$A1\" "[c.r.Intn(11)])+s[place:])
		}
	}
	if good < 5000 {
		t.Errorf("by chance %d formulas are short enough", good)
	}
}

func TestRowsByChance(t *testing.T) {
	r := rand.New(rand.NewSource(2323))
	pieces := append(allTokens(), "(", "(", ")", ")", ",", "A1:B2", "SUM(", "MAX(", "1+", "*2", "-", "")
	for range 40000 {
		var s strings.Builder
		for range r.Intn(14) {
			s.WriteString(pieces[r.Intn(len(pieces))] + rep(" ", r.Intn(2)))
		}
		holdParse(t, s.String())
	}
}

// Rules: what is handed out is new, and nothing panics.

// spoil changes each node of all lists of a node, and of their spare room.
func spoil(n api.Node) {
	room := n.L[:cap(n.L)]
	for i := range room {
		spoil(room[i])
		room[i] = num(99)
	}
}

// holdNew holds that no two lists of an answer, and of another one, share memory: each is spoilt alone.
func holdNew(t *testing.T, s string) {
	t.Helper()
	want, _ := parseByWords(s)
	other, _ := Parse(s)
	for i := range node.Count(want) {
		n, _ := Parse(s)
		places := flat(&n)
		m := *places[i]
		spoil(m)
		for j, x := range flat(&want) {
			if beside(&want, i, j) && !alike(*places[j], *x) {
				t.Errorf("Parse(%q): the node %d was changed with what is below the node %d", s, j, i)
			}
		}
	}
	if again, _ := Parse(s); !same(other, want) || !same(again, want) {
		t.Errorf("Parse(%q): an answer was changed with another one", s)
	}
}

// alike tells whether two nodes are the same but for those below.
func alike(a, b api.Node) bool {
	a.L, b.L = nil, nil
	return same(a, b)
}

// flat is all nodes, each ahead of those below it.
func flat(n *api.Node) []*api.Node {
	l := []*api.Node{n}
	for i := range n.L {
		l = append(l, flat(&n.L[i])...)
	}
	return l
}

// beside tells whether the node j does not stand below the node i.
func beside(n *api.Node, i, j int) bool {
	l := flat(n)
	return j <= i || j >= i+len(flat(l[i]))
}

func TestAnswersAreNewMemory(t *testing.T) {
	for s := range someFormulas() {
		holdNew(t, s)
		holdNew(t, "SUM("+s+","+s+",1,"+s+")")
	}
	for _, s := range []string{"1+2+3+4+5", "SUM(1,2,3,4,5,6,7,8)", "SUM(SUM(1,2,3),SUM(4,5,6),SUM(7))", "-(-(1+2)*3)^4", "SUM(NA(),NA(),A1:B2)", "MAX(SUM(1,2,3),1,2)=MAX(SUM(1,2,3),1,2)"} {
		holdNew(t, s)
	}
}

func TestNothingPanics(t *testing.T) {
	r := rand.New(rand.NewSource(232323))
	for range 20000 {
		b := make([]byte, r.Intn(230))
		for i := range b {
			b[i] = byte(r.Intn(256))
		}
		s := string(b)
		holdParse(t, s)
		holdRef(t, s)
		for i := range b {
			b[i] = " ((()))--+*^&<>=,:1A$9SUM\"#REF.TRUE"[r.Intn(35)]
		}
		n, e := Parse(string(b))
		holdLaws(t, string(b), n, e)
		holdRef(t, string(b))
	}
	for _, s := range []string{"(", "-", ",", ":", "SUM", "SUM(", "SUM(A1", "SUM(A1:", "SUM(A1:B2", "SUM(A1,", "A1:", "1+", "TRUE(", "$"} {
		for n := 0; (n+1)*len(s) < 200; n++ {
			refuse(t, form, rep(s, n)+s+"(")
			if n < 12 {
				holdParse(t, rep(s, n))
			}
		}
	}
	refuse(t, long, rep("(", 1<<20), rep("-", 1<<20), rep("1+", 1<<20), rep("SUM(", 1<<20))
}

// FuzzAll holds both calls against the document's words, of texts and of formulas made by chance.
func FuzzAll(f *testing.F) {
	for s := range someFormulas() {
		f.Add(s, int64(1), 3)
	}
	for i, s := range append(wrongTokens(), noRefs()...) {
		f.Add(s, int64(i), i)
	}
	f.Fuzz(func(t *testing.T, s string, seed int64, most int) {
		for _, w := range []string{s, strings.ToUpper(s), "(" + s + ")", "SUM(" + strings.ToUpper(s) + ")", fmt.Sprintf("%q", s)} {
			holdParse(t, w)
			holdRef(t, w)
			holdBlanks(t, w)
		}
		holdChance(t, chance{rand.New(rand.NewSource(seed))}, 1+int(uint(most)%6))
	})
}
