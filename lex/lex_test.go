package lex

import (
	"math"
	"math/rand"
	"regexp"
	"slices"
	"strconv"
	"strings"
	"testing"

	"oculus/api"
	"oculus/digits"
)

// The greatest decimal, the least one, and the one number of 64 bits that is none.
const (
	greatest = int64(math.MaxInt64)
	least    = int64(-math.MaxInt64)
	none     = int64(math.MinInt64)
)

// mostText is the text of the greatest decimal, moreText of one ten-thousandth more.
const (
	mostText = "922337203685477.5807"
	moreText = "922337203685477.5808"
)

// The chapter's rows of words and signs: of several signs the longest one that fits.
var (
	wordRow = regexp.MustCompile(`\A[A-Z$][A-Z0-9$]*`)
	signRow = regexp.MustCompile(`\A(<>|<=|>=|#REF|[-+*/^&=<>(),:])`)
)

// allSigns is the chapter's row of signs.
func allSigns() []string {
	return strings.Fields(`<> <= >= #REF + - * / ^ & = < > ( ) , :`)
}

// plainByWords is the document's word on Plain.
func plainByWords(t string) bool {
	for _, b := range []byte(t) {
		if !(b >= 32) || b == 127 {
			return false
		}
	}
	return true
}

// marksByWords is the document's word on a text that begins with a mark: what it means, and how many bytes it has; false: it may not be.
func marksByWords(s string) (string, int, bool) {
	for from := 1; from < len(s); {
		if s[from] != '"' {
			from++
			continue
		}
		row := len(s[from:]) - len(strings.TrimLeft(s[from:], `"`))
		from += row
		// Each two marks are one that stands in the text: of a row of odd length the last one is left over, and ends it.
		if row%2 == 1 {
			inner := s[1 : from-1]
			return strings.Join(strings.Split(inner, `""`), `"`), from, plainByWords(inner)
		}
	}
	return "", 0, false
}

// tokenByWords is the document's word on which token begins a text, and how many bytes it has; false: none does.
func tokenByWords(s string) (Token, int, bool) {
	if s[0] >= '0' && s[0] <= '9' {
		x, size, ok := digits.Lead(s)
		return Token{1, 0, "", x}, size, ok
	}
	if s[0] == '"' {
		text, size, ok := marksByWords(s)
		return Token{2, 0, text, 0}, size, ok
	}
	if row := wordRow.FindString(s); row != "" {
		return Token{3, 0, row, 0}, len(row), true
	}
	row := signRow.FindString(s)
	return Token{4, 0, row, 0}, len(row), row != ""
}

// lexByWords is the document's word on Lex.
func lexByWords(s string) ([]Token, int, api.Errno) {
	if len(s) > 200 {
		return nil, 0, 3
	}
	l := []Token{}
	for rest := strings.TrimLeft(s, " "); rest != ""; rest = strings.TrimLeft(rest, " ") {
		at := len(s) - len(rest)
		token, size, ok := tokenByWords(rest)
		if !ok {
			return nil, at, 1
		}
		token.At = at
		l = append(l, token)
		rest = rest[size:]
	}
	return append(l, Token{5, len(s), "", 0}), 0, 0
}

// textByWords is the document's word on Text: of the End, and of a token of no kind, nothing is told, also no blank.
func textByWords(l []Token) string {
	s, told := "", 0
	for _, token := range l {
		if token.Kind < 1 || token.Kind > 4 {
			continue
		}
		if told++; told > 1 {
			s += " "
		}
		switch token.Kind {
		case 1:
			s += digits.Text(token.N)
		case 2:
			s += `"` + strings.Join(strings.Split(token.Text, `"`), `""`) + `"`
		default:
			s += token.Text
		}
	}
	return s
}

// holdLex holds Lex against the document's words.
func holdLex(t *testing.T, s string) {
	t.Helper()
	want, wantAt, wantErr := lexByWords(s)
	got, at, err := Lex(s)
	if !slices.Equal(got, want) || at != wantAt || err != wantErr {
		t.Errorf("Lex(%.250q): %v, %d, %d; not %v, %d, %d", s, got, at, err, want, wantAt, wantErr)
	}
}

// holdPlain holds Plain against the document's words.
func holdPlain(t *testing.T, s string) {
	t.Helper()
	if got := Plain(s); got != plainByWords(s) {
		t.Errorf("Plain(%.80q): %v", s, got)
	}
}

// holdText holds Text against the document's words.
func holdText(t *testing.T, l []Token) {
	t.Helper()
	if got, want := Text(l), textByWords(l); got != want {
		t.Errorf("Text(%v): %q, not %q", l, got, want)
	}
}

// num, str, word and sign are tokens that begin at a byte; end is the End.
func num(at int, n int64) Token    { return Token{1, at, "", n} }
func str(at int, w string) Token   { return Token{2, at, w, 0} }
func word(at int, w string) Token  { return Token{3, at, w, 0} }
func sign(at int, w string) Token  { return Token{4, at, w, 0} }
func end(at int) Token             { return Token{5, at, "", 0} }
func tokens(l ...Token) []Token    { return l }
func rep(w string, n int) string   { return strings.Repeat(w, n) }
func marks(w string) string        { return `"` + w + `"` }
func only(b int) string            { return string([]byte{byte(b)}) }
func blanked(l ...string) string   { return strings.Join(l, " ") }
func unblanked(l ...string) string { return strings.Join(l, "") }
func manyBlanks(n int) string      { return rep(" ", n) }
func noughts(n int) string         { return rep("0", n) }
func tokensOf(s string) []Token    { l, _, _ := Lex(s); return l }

// asked is a text, and the tokens that Lex should answer, but the End.
type asked struct {
	s    string
	want []Token
}

// ask holds Lex against the tokens that it should answer.
func ask(t *testing.T, l []asked) {
	t.Helper()
	for _, x := range l {
		want := append(slices.Clone(x.want), end(len(x.s)))
		if got, at, err := Lex(x.s); !slices.Equal(got, want) || at != 0 || err != 0 {
			t.Errorf("Lex(%.250q): %v, %d, %d; not %v", x.s, got, at, err, want)
		}
		holdLex(t, x.s)
	}
}

// refuse holds that Lex answers nothing but a byte and ErrForm.
func refuse(t *testing.T, at int, l ...string) {
	t.Helper()
	for _, s := range l {
		if got, where, err := Lex(s); len(got) != 0 || where != at || err != 1 {
			t.Errorf("Lex(%.250q): %v, %d, %d; not byte %d", s, got, where, err, at)
		}
		holdLex(t, s)
	}
}

// tooLong holds that Lex answers nothing but ErrLong.
func tooLong(t *testing.T, l ...string) {
	t.Helper()
	for _, s := range l {
		if got, at, err := Lex(s); len(got) != 0 || at != 0 || err != 3 {
			t.Errorf("Lex of %d bytes, %.60q: %v, %d, %d", len(s), s, got, at, err)
		}
		holdLex(t, s)
	}
}

// eachText does something with each text of these pieces, from none up to so many.
func eachText(pieces []string, most int, do func(s string)) {
	var grow func(s string, left int)
	grow = func(s string, left int) {
		do(s)
		if left == 0 {
			return
		}
		for _, p := range pieces {
			grow(s+p, left-1)
		}
	}
	grow("", most)
}

// P21.1: Lex.

func TestKindsAreTheirNumbers(t *testing.T) {
	if got := [5]int{Num, Str, Word, Sign, End}; got != [5]int{1, 2, 3, 4, 5} {
		t.Errorf("the kinds: %v", got)
	}
}

func TestOrdinaryTexts(t *testing.T) {
	ask(t, []asked{
		{"", nil},
		{"1", tokens(num(0, 10000))},
		{"A1", tokens(word(0, "A1"))},
		{`"a"`, tokens(str(0, "a"))},
		{"+", tokens(sign(0, "+"))},
		{"A1+2.5", tokens(word(0, "A1"), sign(2, "+"), num(3, 25000))},
		{"SUM(A$1:$B7, 3) >= 0.5", tokens(word(0, "SUM"), sign(3, "("), word(4, "A$1"), sign(7, ":"), word(8, "$B7"), sign(11, ","), num(13, 30000), sign(14, ")"), sign(16, ">="), num(19, 5000))},
		{`IF(A1<>"say ""no""", #REF, -7)`, tokens(word(0, "IF"), sign(2, "("), word(3, "A1"), sign(5, "<>"), str(7, `say "no"`), sign(19, ","), sign(21, "#REF"), sign(25, ","), sign(27, "-"), num(28, 70000), sign(29, ")"))},
		{`DECLASS(A1,"2:0")&"\"`, tokens(word(0, "DECLASS"), sign(7, "("), word(8, "A1"), sign(10, ","), str(11, "2:0"), sign(16, ")"), sign(17, "&"), str(18, `\`))},
		{"2^3^2*TRUE/4", tokens(num(0, 20000), sign(1, "^"), num(2, 30000), sign(3, "^"), num(4, 20000), sign(5, "*"), word(6, "TRUE"), sign(10, "/"), num(11, 40000))},
	})
}

// TestWhatIsNoFormulaHasTokens has texts that mean nothing: what they mean is not asked here.
func TestWhatIsNoFormulaHasTokens(t *testing.T) {
	ask(t, []asked{
		{")(", tokens(sign(0, ")"), sign(1, "("))},
		{"1 1", tokens(num(0, 10000), num(2, 10000))},
		{"A1 B2", tokens(word(0, "A1"), word(3, "B2"))},
		{`"a" "b"`, tokens(str(0, "a"), str(4, "b"))},
		{",,::", tokens(sign(0, ","), sign(1, ","), sign(2, ":"), sign(3, ":"))},
		{`"a"1A"b"`, tokens(str(0, "a"), num(3, 10000), word(4, "A"), str(5, "b"))},
		{"$$$", tokens(word(0, "$$$"))},
	})
}

func TestBlanks(t *testing.T) {
	for n := 0; n <= 200; n++ {
		ask(t, []asked{{manyBlanks(n), nil}})
		if n < 200 {
			ask(t, []asked{{manyBlanks(n) + "A", tokens(word(n, "A"))}, {"1" + manyBlanks(n), tokens(num(0, 10000))}})
		}
		if n < 198 {
			ask(t, []asked{{"1" + manyBlanks(n) + "+1", tokens(num(0, 10000), sign(n+1, "+"), num(n+2, 10000))}})
		}
	}
	tooLong(t, manyBlanks(201), manyBlanks(1000))
	ask(t, []asked{
		{"A 1", tokens(word(0, "A"), num(2, 10000))},
		{"A1", tokens(word(0, "A1"))},
		{"1 2", tokens(num(0, 10000), num(2, 20000))},
		{"12", tokens(num(0, 120000))},
		{"< >", tokens(sign(0, "<"), sign(2, ">"))},
		{"< =", tokens(sign(0, "<"), sign(2, "="))},
		{"> =", tokens(sign(0, ">"), sign(2, "="))},
		{`" a  b "`, tokens(str(0, " a  b "))},
		{`"a" "b"`, tokens(str(0, "a"), str(4, "b"))},
		{`"a""b"`, tokens(str(0, `a"b`))},
		{"$ A", tokens(word(0, "$"), word(2, "A"))},
	})
	// A number, a sign and a mark of two are torn by a blank.
	refuse(t, 1, "1. 5", "A#", "1.")
	refuse(t, 2, "1 .5", "1 .", "  .", "  # REF")
	refuse(t, 0, "# REF", "#R EF", "#RE F", `" "" `)
	// What looks like a blank is none.
	for _, b := range []string{"\t", "\n", "\r", "\v", "\f", "\x00", "\x1f", "\xa0", "\u00a0", "\u2003", "\u3000", "\ufeff"} {
		refuse(t, 0, b, b+"1", b+" ")
		refuse(t, 1, "1"+b, "1"+b+"+1", " "+b, " "+b+"1")
		refuse(t, 2, "1+"+b+"1", "1 "+b+" ")
	}
}

// TestHowLongATextIs has texts about the limit that end with a token of each kind.
func TestHowLongATextIs(t *testing.T) {
	lasts := append(allSigns(), "1", "12.5", "0.0001", mostText, "A", "$A$1", "SUM", `""`, `"a"`, `""""`, `"a""b"`, "\"\xff\"")
	for _, last := range lasts {
		for n := 195; n <= 205; n++ {
			for _, s := range []string{manyBlanks(n-len(last)) + last, rep("+", n-len(last)-1) + " " + last, rep("1 ", n/2-len(last)) + last, last + manyBlanks(n-len(last))} {
				holdLex(t, s)
				if got, at, err := Lex(s); len(s) <= 200 && (err != 0 || got[len(got)-1] != end(len(s))) || len(s) > 200 && (err != 3 || at != 0 || len(got) != 0) {
					t.Errorf("Lex of %d bytes, with %s: %d, %d, %d tokens", len(s), last, at, err, len(got))
				}
			}
		}
	}
	ask(t, []asked{
		{rep("A", 199), tokens(word(0, rep("A", 199)))},
		{rep("A", 200), tokens(word(0, rep("A", 200)))},
		{marks(rep("a", 197)), tokens(str(0, rep("a", 197)))},
		{marks(rep("a", 198)), tokens(str(0, rep("a", 198)))},
		{marks(rep(`""`, 99)), tokens(str(0, rep(`"`, 99)))},
		{manyBlanks(199) + "7", tokens(num(199, 70000))},
		{manyBlanks(196) + "#REF", tokens(sign(196, "#REF"))},
		{manyBlanks(198) + "<>", tokens(sign(198, "<>"))},
	})
	tooLong(t, rep("A", 201), marks(rep("a", 199)), marks(rep(`""`, 99)+"a"), manyBlanks(200)+"7", manyBlanks(197)+"#REF", manyBlanks(199)+"<>", rep("1", 201), rep("+", 201), rep("+", 1<<16), rep(`"`, 100000))
}

// TestTooLongComesFirst has texts that are too long, and wrong besides that: just how long they are is told.
func TestTooLongComesFirst(t *testing.T) {
	for _, wrong := range []string{"#", "a", ".", `"`, "\x00", "\xff", "922337203685478", "\"\x1f\""} {
		s := rep("+", 200)
		refuse(t, 0, wrong, wrong+s[:200-len(wrong)])
		refuse(t, 200-len(wrong), s[:200-len(wrong)]+wrong)
		tooLong(t, s+wrong, wrong+s[:201-len(wrong)], s[:201-len(wrong)]+wrong, rep(wrong, 201))
	}
	// What begins within the limit may end behind it.
	tooLong(t, rep("+", 198)+`"a"`, rep("+", 197)+"#REF", rep("+", 199)+"<>", rep("+", 199)+"12", rep("+", 199)+"A1")
}

func TestEachSign(t *testing.T) {
	l := allSigns()
	if len(l) != 17 {
		t.Fatalf("%d signs", len(l))
	}
	for _, s := range l {
		ask(t, []asked{
			{s, tokens(sign(0, s))},
			{" " + s + " ", tokens(sign(1, s))},
			{"1" + s + "A", tokens(num(0, 10000), sign(1, s), word(1+len(s), "A"))},
			{`""` + s + `""`, tokens(str(0, ""), sign(2, s), str(2+len(s), ""))},
			{"A" + s + "1", tokens(word(0, "A"), sign(1, s), num(1+len(s), 10000))},
		})
	}
	eachText(l, 3, func(s string) { holdLex(t, s) })
	eachText([]string{"<", ">", "=", " ", "#REF"}, 6, func(s string) { holdLex(t, s) })
}

func TestTheLongestSignIsTaken(t *testing.T) {
	ask(t, []asked{
		{"<>", tokens(sign(0, "<>"))},
		{"><", tokens(sign(0, ">"), sign(1, "<"))},
		{"<=>", tokens(sign(0, "<="), sign(2, ">"))},
		{"<>=", tokens(sign(0, "<>"), sign(2, "="))},
		{"<<=", tokens(sign(0, "<"), sign(1, "<="))},
		{"<<>", tokens(sign(0, "<"), sign(1, "<>"))},
		{">>=", tokens(sign(0, ">"), sign(1, ">="))},
		{">=<", tokens(sign(0, ">="), sign(2, "<"))},
		{"==", tokens(sign(0, "="), sign(1, "="))},
		{"=<", tokens(sign(0, "="), sign(1, "<"))},
		{"=>", tokens(sign(0, "="), sign(1, ">"))},
		{"=<>", tokens(sign(0, "="), sign(1, "<>"))},
		{"<==", tokens(sign(0, "<="), sign(2, "="))},
		{"<>>", tokens(sign(0, "<>"), sign(2, ">"))},
		{"><>", tokens(sign(0, ">"), sign(1, "<>"))},
		{"**", tokens(sign(0, "*"), sign(1, "*"))},
		{"--", tokens(sign(0, "-"), sign(1, "-"))},
		{"<-1", tokens(sign(0, "<"), sign(1, "-"), num(2, 10000))},
		{"#REF#REF", tokens(sign(0, "#REF"), sign(4, "#REF"))},
	})
}

func TestLost(t *testing.T) {
	ask(t, []asked{
		{"#REF", tokens(sign(0, "#REF"))},
		{"#REFA", tokens(sign(0, "#REF"), word(4, "A"))},
		{"#REF1", tokens(sign(0, "#REF"), num(4, 10000))},
		{"#REF$", tokens(sign(0, "#REF"), word(4, "$"))},
		{"#REFREF", tokens(sign(0, "#REF"), word(4, "REF"))},
		{"#REF:A1", tokens(sign(0, "#REF"), sign(4, ":"), word(5, "A1"))},
		{"A1#REF", tokens(word(0, "A1"), sign(2, "#REF"))},
		{"REF", tokens(word(0, "REF"))},
		{`"#REF"`, tokens(str(0, "#REF"))},
	})
	refuse(t, 0, "#", "#R", "#RE", "#REf", "#ref", "#Ref", "#REG", "#RF", "##REF", "#A1", "#1", "#$REF", "# REF", "#DIV", "#VALUE", "#NA", "#NUM", "#AUTH", "#CYCLE", "#\"", "#\xff")
	refuse(t, 4, "#REF#", "#REF#RE", "#REFref", "#REF!", "#REF?", "1+A/#")
	refuse(t, 1, "1#", "1#RE", "A#RE", "A#", " #RE ", "+#")
}

func TestNumbers(t *testing.T) {
	ask(t, []asked{
		{"0", tokens(num(0, 0))},
		{"00", tokens(num(0, 0))},
		{"007", tokens(num(0, 70000))},
		{"0.5", tokens(num(0, 5000))},
		{"0.0001", tokens(num(0, 1))},
		{"12.5", tokens(num(0, 125000))},
		{"12.50", tokens(num(0, 125000))},
		{"12.5000", tokens(num(0, 125000))},
		{"1.2345", tokens(num(0, 12345))},
		// Of more digits behind the point than four the others are a number of their own.
		{"1.23456", tokens(num(0, 12345), num(6, 60000))},
		{"1.234567.8", tokens(num(0, 12345), num(6, 678000))},
		{"0.00000", tokens(num(0, 0), num(6, 0))},
		{mostText, tokens(num(0, greatest))},
		{"00" + mostText, tokens(num(0, greatest))},
		{mostText + "9", tokens(num(0, greatest), num(20, 90000))},
		{"922337203685477", tokens(num(0, 9223372036854770000))},
		{"922337203685476.9999", tokens(num(0, 9223372036854769999))},
		{"922337203685477.5", tokens(num(0, 9223372036854775000))},
		// Of a row of digits no more than thirty are taken.
		{noughts(30), tokens(num(0, 0))},
		{noughts(31), tokens(num(0, 0), num(30, 0))},
		{noughts(29) + "1", tokens(num(0, 10000))},
		{noughts(30) + "1", tokens(num(0, 0), num(30, 10000))},
		{noughts(29) + "12", tokens(num(0, 10000), num(30, 20000))},
		{noughts(30) + "1.5", tokens(num(0, 0), num(30, 15000))},
		{noughts(29) + "1.5", tokens(num(0, 15000))},
		{noughts(15) + "922337203685477.5807", tokens(num(0, greatest))},
		{noughts(200), tokens(num(0, 0), num(30, 0), num(60, 0), num(90, 0), num(120, 0), num(150, 0), num(180, 0))},
		// Right behind a number another token may begin.
		{"1A", tokens(num(0, 10000), word(1, "A"))},
		{"1E5", tokens(num(0, 10000), word(1, "E5"))},
		{"1.5E5", tokens(num(0, 15000), word(3, "E5"))},
		{"1$", tokens(num(0, 10000), word(1, "$"))},
		{"0X1F", tokens(num(0, 0), word(1, "X1F"))},
		{"1+", tokens(num(0, 10000), sign(1, "+"))},
		{"-1", tokens(sign(0, "-"), num(1, 10000))},
		{"1-1", tokens(num(0, 10000), sign(1, "-"), num(2, 10000))},
		{"1,5", tokens(num(0, 10000), sign(1, ","), num(2, 50000))},
		{"1:2", tokens(num(0, 10000), sign(1, ":"), num(2, 20000))},
		{`1"a"`, tokens(num(0, 10000), str(1, "a"))},
		{"1#REF", tokens(num(0, 10000), sign(1, "#REF"))},
		{"1<>2", tokens(num(0, 10000), sign(1, "<>"), num(3, 20000))},
		{"1.5(", tokens(num(0, 15000), sign(3, "("))},
	})
}

func TestWhatIsNoNumber(t *testing.T) {
	refuse(t, 0, ".", ".5", "..", "922337203685478", moreText, "922337203685478.0", "9223372036854775807", "9223372036854775808", rep("9", 16), rep("9", 30), rep("9", 31), rep("9", 200), "1"+noughts(15), "1"+noughts(29), "1"+noughts(30), noughts(14)+"9223372036854775", noughts(15)+moreText)
	refuse(t, 1, "1.", "1.A", "1. 5", "1.+", "1..", "1..5", "1._", "1.\xb2", "-.5", "1a", "1e5", "1_000", "1'000", "(.5)", "1%", "-"+moreText)
	refuse(t, 2, "00.", "1+.5", "1 .5", "1+922337203685478", "12.x")
	refuse(t, 3, "1.2.3", "1.2.", "1.2a", "0.5.", "1.5.5.5")
	refuse(t, 6, "1.2345.6", "1.2345.", "0.0000.")
	// The digits behind those that are taken begin a number of their own: it may have none.
	refuse(t, 30, noughts(30)+".", noughts(30)+"922337203685478", noughts(30)+"x")
	refuse(t, 6, "1.2345"+rep("9", 16), "1.2345"+moreText)
	refuse(t, 20, mostText+rep("9", 16), mostText+".")
}

// TestNumbersByTheirDigits has rows of digits of each length, with and without a point and digits behind it.
func TestNumbersByTheirDigits(t *testing.T) {
	for _, d := range []string{"0", "1", "9", "37"} {
		for n := 0; n <= 40; n++ {
			for part := -1; part <= 7; part++ {
				s := rep(d, n)
				if part >= 0 {
					s += "." + rep(d, part)
				}
				for _, behind := range []string{"", " ", "+", ".", "A", "7", ".5", `""`, "#REF"} {
					holdLex(t, s+behind)
					holdLex(t, "A "+noughts(20)+s+behind)
				}
			}
		}
	}
	for whole := 922337203685470; whole <= 922337203685480; whole++ {
		for part := 0; part < 10000; part += 7 {
			holdLex(t, strconv.Itoa(whole)+"."+strconv.Itoa(10000 + part)[1:])
		}
	}
	for part := 5800; part <= 5815; part++ {
		holdLex(t, "922337203685477."+strconv.Itoa(part))
	}
	eachText([]string{"0", "5", ".", "A", "-", " "}, 6, func(s string) { holdLex(t, s) })
}

func TestWords(t *testing.T) {
	for b := 'A'; b <= 'Z'; b++ {
		w := string(b)
		ask(t, []asked{
			{w, tokens(word(0, w))},
			{w + "1", tokens(word(0, w+"1"))},
			{w + "$1", tokens(word(0, w+"$1"))},
			{"$" + w, tokens(word(0, "$"+w))},
			{"1" + w, tokens(num(0, 10000), word(1, w))},
			{w + `"a"`, tokens(word(0, w), str(1, "a"))},
			{"A" + w + "Z", tokens(word(0, "A"+w+"Z"))},
		})
		refuse(t, 1, w+"a", w+"_", w+".", w+"#", w+"\xff")
	}
	ask(t, []asked{
		{"$", tokens(word(0, "$"))},
		{"$$", tokens(word(0, "$$"))},
		{"$1", tokens(word(0, "$1"))},
		{"A$", tokens(word(0, "A$"))},
		{"$A$1", tokens(word(0, "$A$1"))},
		{"A1B2", tokens(word(0, "A1B2"))},
		{"ABCDEFGHIJKLMNOPQRSTUVWXYZ$0123456789", tokens(word(0, "ABCDEFGHIJKLMNOPQRSTUVWXYZ$0123456789"))},
		{"A" + rep("9", 199), tokens(word(0, "A"+rep("9", 199)))},
		{"$" + rep("9", 199), tokens(word(0, "$"+rep("9", 199)))},
		{"1$A", tokens(num(0, 10000), word(1, "$A"))},
		{"12A34", tokens(num(0, 120000), word(2, "A34"))},
		{"TRUE", tokens(word(0, "TRUE"))},
		{"SUM(", tokens(word(0, "SUM"), sign(3, "("))},
		{`A""`, tokens(word(0, "A"), str(1, ""))},
		{`A1"x""y"B`, tokens(word(0, "A1"), str(2, `x"y`), word(8, "B"))},
		{"A,B", tokens(word(0, "A"), sign(1, ","), word(2, "B"))},
	})
	refuse(t, 2, "A1.5", "A1.", "$Aa", "AB_", "A1a")
	refuse(t, 0, "a", "sum", "a1", "_A", "true", "\xc3\x84", "\u00e9", "\u04101")
}

// pieces is a text of tokens of all kinds, in pieces: a byte may be put ahead of each, and behind all.
func pieces() []string {
	return []string{"12", ".5", "+", "A", "1", "<", ">=", "$", "B", "#REF", `"x`, `""`, `y"`, ",", " ", "(", "0", ")", "7"}
}

// TestEachByte has each byte alone, at the beginning, inside and at the end of a text that is well otherwise.
func TestEachByte(t *testing.T) {
	for b := range 256 {
		w := only(b)
		for _, s := range []string{w, w + w, " " + w, w + " ", w + "1", "1" + w, w + "A", "A" + w, w + "<", "<" + w, w + ">", ">" + w, w + `"a"`, `"a"` + w, "#REF" + w, w + "REF", "#" + w, "1." + w, "1.5" + w, "." + w, "$" + w} {
			holdLex(t, s)
		}
		l := pieces()
		for i := 0; i <= len(l); i++ {
			holdLex(t, unblanked(l[:i]...)+w+unblanked(l[i:]...))
			holdLex(t, blanked(l[:i]...)+w+blanked(l[i:]...))
		}
		_, _, err := Lex(w)
		want := strings.Contains(" $0123456789ABCDEFGHIJKLMNOPQRSTUVWXYZ+-*/^&=<>(),:", w)
		if want != (err == 0) {
			t.Errorf("Lex(%q): %d", w, err)
		}
		if !want {
			refuse(t, 0, w, w+"1", w+"+A")
			if b != '"' {
				refuse(t, 3, "1+A"+w, "1+A"+w+"-B")
				refuse(t, 4, "1+A "+w, "1+A "+w+" ")
			}
		}
	}
}

func TestMarks(t *testing.T) {
	ask(t, []asked{
		{`""`, tokens(str(0, ""))},
		{`"a"`, tokens(str(0, "a"))},
		{`""""`, tokens(str(0, `"`))},
		{`"""a"`, tokens(str(0, `"a`))},
		{`"a"""`, tokens(str(0, `a"`))},
		{`"a""b"`, tokens(str(0, `a"b`))},
		{`""""""`, tokens(str(0, `""`))},
		{`"a""""b"`, tokens(str(0, `a""b`))},
		{`"""a""b"""`, tokens(str(0, `"a"b"`))},
		{`"" ""`, tokens(str(0, ""), str(3, ""))},
		{`"a" "b" "c"`, tokens(str(0, "a"), str(4, "b"), str(8, "c"))},
		{`"a"+"b"`, tokens(str(0, "a"), sign(3, "+"), str(4, "b"))},
		{`" "`, tokens(str(0, " "))},
		{`"   "`, tokens(str(0, "   "))},
		{`"+"`, tokens(str(0, "+"))},
		{`"small letters, Great ones. And # [others]; {so}!"`, tokens(str(0, "small letters, Great ones. And # [others]; {so}!"))},
		{`"\"`, tokens(str(0, `\`))},
		{`"\n"`, tokens(str(0, `\n`))},
		{marks("caf\u00e9"), tokens(str(0, "caf\u00e9"))},
		{"\"\x80\xff\"", tokens(str(0, "\x80\xff"))},
		{`"922337203685478"`, tokens(str(0, "922337203685478"))},
		{`A"b"1`, tokens(word(0, "A"), str(1, "b"), num(4, 10000))},
	})
}

func TestMarksThatNoMarkEnds(t *testing.T) {
	refuse(t, 0, `"`, `"a`, `"""`, `"a""`, `"""""`, `"a""b`, `"a""""`, `" `, `"1+A1`, `"#REF`, `"'`, `"""a`)
	refuse(t, 1, `1"`, `1"a`, `1"a""`, `A"`, `+"b""`, ` "`)
	refuse(t, 2, `""x`, `""a`, `1+"`)
	refuse(t, 3, `"a"x`, `"" "`, `"a".`, `"" """`)
	refuse(t, 4, `"a" "`, `"a" "b`, `"a" """`)
	// An odd row of marks alone has one that none ends.
	for n := 0; n <= 200; n++ {
		s := rep(`"`, n)
		if n%2 == 1 {
			refuse(t, 0, s, s+"a", s+" ")
		} else if n > 0 {
			ask(t, []asked{{s, tokens(str(0, rep(`"`, n/2-1)))}})
		}
	}
	eachText([]string{`"`, "a", " ", "1"}, 7, func(s string) { holdLex(t, s) })
}

// TestEachByteWithinMarks tells, where a byte may not stand, the mark that begins the text, not the byte.
func TestEachByteWithinMarks(t *testing.T) {
	for b := range 256 {
		w := only(b)
		may := b >= 32 && b != 127
		for _, inner := range []string{w, w + "a", "a" + w, "a" + w + "b", w + w, `""` + w, w + `""`, " " + w} {
			s := marks(inner)
			holdLex(t, s)
			holdLex(t, "1+"+s+"+2")
			if b == '"' {
				continue
			}
			if may {
				ask(t, []asked{{s, tokens(str(0, strings.ReplaceAll(inner, `""`, `"`)))}})
			} else {
				refuse(t, 0, s, s+"+1", s+"x", s+`"`)
				refuse(t, 2, "1+"+s, "1+"+s+"+2", `A `+s+` `)
				refuse(t, 4, `"a"&`+s, `"a" `+s)
			}
		}
		if !may {
			// Behind marks that are closed it is the byte itself that is told.
			refuse(t, 3, marks("x")+w, marks("x")+w+marks("y"))
			refuse(t, 0, marks("x"+w+"y"), marks("x"+w+"y")+w)
			refuse(t, 0, `"a`+w, `"`+w)
		}
	}
	for _, b := range []int{32, 33, 126, 128, 255} {
		ask(t, []asked{{marks("x" + only(b) + "y"), tokens(str(0, "x"+only(b)+"y"))}})
	}
	for _, b := range []int{0, 9, 10, 31, 127} {
		refuse(t, 0, marks("x"+only(b)+"y"))
	}
}

// TestTheFirstWrongByteIsTold has several that are wrong.
func TestTheFirstWrongByteIsTold(t *testing.T) {
	refuse(t, 0, "#.", ".#", `"#.`, "a#", "922337203685478 #")
	refuse(t, 2, "1+# .", "1+. #", `1+"x`, "1+a #", "1+922337203685478+#", "1 # #")
	refuse(t, 4, "1.5 # .", "<>  x y", "SUM a b", `"#" .`, `"." #`)
}

// someTexts is texts of all kinds of tokens, and such as are wrong.
func someTexts() []string {
	l := append(allSigns(), "", " ", "1", "0", "12.5", "0.0001", "1.23456", mostText, moreText, noughts(31), "A", "$A$1", "SUM", "a", "$", `""`, `"a"`, `""""`, `"a""b"`, `"`, `"a`, "\"\x1f\"", "\"\x7f\"", "\"\xff\"", "#", "#RE", ".", "1.", ".5", "\t", "\x00", "\x80", "\xff")
	return append(l, "A1+2.5", `IF(A1<>"say ""no""", #REF, -7)`, "SUM(A$1:$B7, 3) >= 0.5")
}

func TestEachTwoTexts(t *testing.T) {
	eachText(someTexts(), 2, func(s string) { holdLex(t, s) })
	for _, a := range someTexts() {
		for _, b := range someTexts() {
			holdLex(t, a+" "+b)
			holdLex(t, "  "+a+"   "+b+" ")
		}
	}
}

// TestByChance has texts of random pieces, and of random bytes, up to behind the limit.
func TestByChance(t *testing.T) {
	r := rand.New(rand.NewSource(21))
	l := someTexts()
	well := slices.DeleteFunc(slices.Clone(l), func(s string) bool { return len(tokensOf(s)) == 0 })
	for range 20000 {
		var s strings.Builder
		from := l
		if r.Intn(4) > 0 {
			from = well
		}
		for s.Len() < r.Intn(230) {
			s.WriteString(from[r.Intn(len(from))] + manyBlanks(r.Intn(3)/2))
		}
		holdLex(t, s.String())
		holdText(t, tokensOf(s.String()))
	}
	for range 20000 {
		b := make([]byte, r.Intn(210))
		for i := range b {
			b[i] = " \"\"\"ab1290..$A<>=#REF+\xff"[r.Intn(23)]
		}
		holdLex(t, string(b))
	}
}

// TestNothingBesideAnError has texts that begin well: of what stands ahead of the wrong byte nothing is told.
func TestNothingBesideAnError(t *testing.T) {
	for _, s := range []string{"1+A1&\"x\"#", "SUM(A1:B2).", "1 2 3 x", rep("1+", 101), `A1"`} {
		if got, _, err := Lex(s); len(got) != 0 || err == 0 {
			t.Errorf("Lex(%.250q): %v, %d", s, got, err)
		}
		holdLex(t, s)
	}
}

// P21.1: Plain.

func TestPlain(t *testing.T) {
	for _, w := range []string{"", " ", "a", `"`, `""`, "~", "\x80", "\xff", "caf\u00e9", rep("a", 1000), rep(" ", 201)} {
		if !Plain(w) {
			t.Errorf("Plain(%.80q): false", w)
		}
	}
	for _, w := range []string{"\x00", "\x1f", "\x7f", "\n", "\t", "a\x1f", "\x1fa", "a\x7fb", "\xff\x00", rep("a", 1000) + "\x7f", "\x1f" + rep("a", 1000)} {
		if Plain(w) {
			t.Errorf("Plain(%.80q): true", w)
		}
	}
}

func TestPlainOfEachByte(t *testing.T) {
	for b := range 256 {
		w := only(b)
		want := b >= 32 && b != 127
		for _, s := range []string{w, w + "a", "a" + w, "a" + w + "b", w + w, w + "\xff", "\xff" + w, " " + w + " ", rep("a", 300) + w + rep("b", 300)} {
			if Plain(s) != want {
				t.Errorf("Plain(%.80q): %v", s, !want)
			}
			holdPlain(t, s)
		}
		for c := range 256 {
			holdPlain(t, w+only(c))
		}
	}
}

// TestPlainIsWhatMayStandWithinMarks holds Plain against what Lex takes within marks.
func TestPlainIsWhatMayStandWithinMarks(t *testing.T) {
	l := append(someTexts(), "\x1f ", "a\x7f", "\x80\x1f", "   ", "a\nb")
	for b := range 256 {
		l = append(l, only(b), "a"+only(b), only(b)+"a")
	}
	for _, w := range l {
		s := marks(strings.ReplaceAll(w, `"`, `""`))
		got, _, err := Lex(s)
		if Plain(w) != (err == 0) || err == 0 && !slices.Equal(got, tokens(str(0, w), end(len(s)))) {
			t.Errorf("Plain(%q): %v; within marks: %v, %d", w, Plain(w), got, err)
		}
	}
}

// P21.2: Text.

// told is tokens, and their text.
type told struct {
	l    []Token
	want string
}

// askText holds Text against what it should answer.
func askText(t *testing.T, l []told) {
	t.Helper()
	for _, x := range l {
		if got := Text(x.l); got != x.want {
			t.Errorf("Text(%v): %q, not %q", x.l, got, x.want)
		}
		holdText(t, x.l)
	}
}

func TestText(t *testing.T) {
	askText(t, []told{
		{nil, ""},
		{[]Token{}, ""},
		{tokens(end(0)), ""},
		{tokens(end(7)), ""},
		{tokens(num(0, 125000)), "12.5"},
		{tokens(str(0, "a")), `"a"`},
		{tokens(word(0, "A1")), "A1"},
		{tokens(sign(0, "<>")), "<>"},
		{tokens(num(0, 125000), end(4)), "12.5"},
		{tokensOf("A1+2.50"), "A1 + 2.5"},
		{tokensOf("  SUM( A$1:$B7,3 )>=0.5  "), "SUM ( A$1 : $B7 , 3 ) >= 0.5"},
		{tokensOf(`IF(A1<>"say ""no""",#REF,-7)`), `IF ( A1 <> "say ""no""" , #REF , - 7 )`},
		{tokensOf("1.23456"), "1.2345 6"},
		{tokensOf("007"), "7"},
		{tokensOf("1A"), "1 A"},
		{tokensOf(`"a" "b"`), `"a" "b"`},
		{tokensOf("< >"), "< >"},
		{tokensOf("<>"), "<>"},
	})
}

// TestTextOfTwo has tokens of each two kinds.
func TestTextOfTwo(t *testing.T) {
	l := tokens(num(0, 0), num(3, 12345), str(1, ""), str(0, "a b"), str(0, `"`), word(0, "A"), word(9, "$B$7"), sign(0, "("), sign(5, "#REF"))
	for _, a := range l {
		for _, b := range l {
			one, other := Text(tokens(a)), Text(tokens(b))
			askText(t, []told{
				{tokens(a, b), one + " " + other},
				{tokens(a, b, end(20)), one + " " + other},
				{tokens(a, b, a), one + " " + other + " " + one},
				{tokens(b, b, b, b), blanked(other, other, other, other)},
			})
		}
	}
}

// TestTextOfTheEndAndOfNoKind has nothing told of them, wherever they stand: also no blank.
func TestTextOfTheEndAndOfNoKind(t *testing.T) {
	for _, kind := range []int{5, 0, 6, -1, 7, 256, 257, 258, math.MinInt, math.MaxInt, 1 << 32, 1<<32 + 1, -3} {
		for _, not := range []Token{{Kind: kind}, {Kind: kind, At: 3, Text: "x", N: 70000}, {Kind: kind, Text: `"`}, {Kind: kind, N: -1}} {
			askText(t, []told{
				{tokens(not), ""},
				{tokens(not, not), ""},
				{tokens(word(0, "A"), not), "A"},
				{tokens(not, word(0, "A")), "A"},
				{tokens(word(0, "A"), not, num(0, 10000)), "A 1"},
				{tokens(not, str(0, "a"), not, not, sign(0, "+"), not), `"a" +`},
				{tokens(word(0, "A"), sign(0, "+"), not, num(0, 10000)), "A + 1"},
			})
		}
	}
}

func TestTextOfNumbers(t *testing.T) {
	askText(t, []told{
		{tokens(num(0, 0)), "0"},
		{tokens(num(0, 1)), "0.0001"},
		{tokens(num(0, 10)), "0.001"},
		{tokens(num(0, 100)), "0.01"},
		{tokens(num(0, 1000)), "0.1"},
		{tokens(num(0, 10000)), "1"},
		{tokens(num(0, 12340)), "1.234"},
		{tokens(num(0, 12345)), "1.2345"},
		{tokens(num(0, 1000000)), "100"},
		{tokens(num(0, greatest)), mostText},
		{tokens(num(0, -15000)), "-1.5"},
		{tokens(num(0, least)), "-" + mostText},
		{tokens(num(0, none)), ""},
		{tokens(Token{Kind: 1, Text: "x", N: 20000}), "2"},
	})
	for x := int64(0); x <= 30000; x += 3 {
		holdText(t, tokens(num(0, x), num(0, greatest-x)))
	}
}

func TestTextOfTexts(t *testing.T) {
	askText(t, []told{
		{tokens(str(0, "")), `""`},
		{tokens(str(0, `"`)), `""""`},
		{tokens(str(0, `""`)), `""""""`},
		{tokens(str(0, `a"b`)), `"a""b"`},
		{tokens(str(0, `"a"`)), `"""a"""`},
		{tokens(str(0, "  a ")), `"  a "`},
		{tokens(str(0, "\x00\x7f\xff\n")), "\"\x00\x7f\xff\n\""},
		{tokens(str(0, rep("x", 1000))), marks(rep("x", 1000))},
		{tokens(str(0, rep(`"`, 1000))), rep(`"`, 2002)},
		{tokens(Token{Kind: 2, Text: "a", N: 20000}), `"a"`},
		{tokens(word(0, ""), word(0, "")), " "},
		{tokens(word(0, `a"b`)), `a"b`},
		{tokens(sign(0, `x y`), word(0, "\xff")), "x y \xff"},
	})
	for b := range 256 {
		w := only(b)
		for _, kind := range []int{2, 3, 4} {
			holdText(t, tokens(Token{kind, 0, w, 0}, Token{kind, 0, "a" + w, 0}, Token{kind, 0, w + w + "a", 0}))
		}
	}
}

// TestTextOfMany has more tokens than a text may have bytes.
func TestTextOfMany(t *testing.T) {
	l := slices.Repeat(tokens(num(0, 5000), sign(0, "+")), 5000)
	if got := Text(l); got != strings.TrimSuffix(rep("0.5 + ", 5000), " ") {
		t.Errorf("Text of %d tokens has %d bytes", len(l), len(got))
	}
}

// P21.3: what follows.

// unplaced is tokens without where they begin.
func unplaced(l []Token) []Token {
	l = slices.Clone(l)
	for i := range l {
		l[i].At = 0
	}
	return l
}

// holdAgain holds that the tokens of a text, told as text, are the same tokens again.
func holdAgain(t *testing.T, s string) {
	t.Helper()
	l, _, err := Lex(s)
	if err != 0 {
		return
	}
	w := Text(l)
	again, at, err := Lex(w)
	if len(w) > 200 {
		if err != 3 {
			t.Errorf("Text of %q has %d bytes, and is taken: %d", s, len(w), err)
		}
		return
	}
	if err != 0 || at != 0 || !slices.Equal(unplaced(again), unplaced(l)) {
		t.Errorf("%q: %v; told as %q: %v, %d, %d", s, l, w, again, at, err)
	}
	if more := Text(again); more != w {
		t.Errorf("%q is told as %q, and that as %q", s, w, more)
	}
}

func TestToldTokensAreTheSame(t *testing.T) {
	eachText(someTexts(), 2, func(s string) { holdAgain(t, s) })
	eachText([]string{`"`, "a", " ", "1", "A", ".5", "<", "=", ">"}, 5, func(s string) { holdAgain(t, s) })
	eachText(allSigns(), 3, func(s string) { holdAgain(t, s) })
	for n := 90; n <= 201; n++ {
		holdAgain(t, rep("+", n))
		holdAgain(t, rep("A", n))
		holdAgain(t, marks(rep("a", n-2)))
		holdAgain(t, rep(`"`, n))
		holdAgain(t, rep("1+", n/2))
		holdAgain(t, noughts(n))
	}
}

// holdBlanks holds that more blanks ahead of a token just move those behind, and the End.
func holdBlanks(t *testing.T, s string, more int) {
	t.Helper()
	l, _, err := Lex(s)
	if err != 0 {
		return
	}
	for i, from := range l {
		moved := slices.Clone(l)
		for j := i; j < len(moved); j++ {
			moved[j].At += more
		}
		w := s[:from.At] + manyBlanks(more) + s[from.At:]
		got, at, err := Lex(w)
		if len(w) > 200 {
			continue
		}
		if err != 0 || at != 0 || !slices.Equal(got, moved) {
			t.Errorf("%q, with %d blanks more at %d: %v, %d, %d; not %v", s, more, from.At, got, at, err, moved)
		}
		if Text(got) != Text(l) {
			t.Errorf("%q, with %d blanks more at %d, is told as %q", s, more, from.At, Text(got))
		}
	}
}

func TestMoreBlanksChangeNothing(t *testing.T) {
	for _, a := range someTexts() {
		for _, b := range someTexts() {
			for _, more := range []int{1, 2, 50} {
				holdBlanks(t, a+b, more)
				holdBlanks(t, a+" "+b, more)
			}
		}
	}
	eachText([]string{`"`, "1", "A", ".5", "<", "="}, 5, func(s string) { holdBlanks(t, s, 1) })
}

// TestAnswersAreNewMemory changes what was handed out: what is asked again is as it was.
func TestAnswersAreNewMemory(t *testing.T) {
	s := `IF(A1<>"say ""no""",#REF,-7.5)`
	one, _, _ := Lex(s)
	other, _, _ := Lex(s)
	for i := range one {
		one[i] = num(1, 2)
	}
	_ = append(one, end(3))
	want, _, _ := lexByWords(s)
	if !slices.Equal(other, want) {
		t.Errorf("one list was changed, and so the other one: %v", other)
	}
	holdLex(t, s)
}

// TestWhatIsHandedInStays has a list with spare room, and one that is nil.
func TestWhatIsHandedInStays(t *testing.T) {
	room := slices.Repeat(tokens(str(7, `x"y`)), 10)
	l := room[:3]
	for range 3 {
		if got := Text(l); got != `"x""y" "x""y" "x""y"` {
			t.Errorf("Text: %q", got)
		}
	}
	for i, x := range room {
		if x != str(7, `x"y`) {
			t.Errorf("place %d was changed: %v", i, x)
		}
	}
}

// TestNothingPanics has any bytes, and tokens with any fields.
func TestNothingPanics(t *testing.T) {
	r := rand.New(rand.NewSource(2121))
	var l []Token
	for range 3000 {
		b := make([]byte, r.Intn(300))
		for i := range b {
			b[i] = byte(r.Intn(256))
		}
		s := string(b)
		holdLex(t, s)
		holdPlain(t, s)
		l = append(l, Token{r.Intn(9) - 2, r.Int() - r.Int(), s, int64(r.Uint64())})
	}
	for _, kind := range []int{math.MinInt, -1, 0, 1, 2, 3, 4, 5, 6, math.MaxInt} {
		for _, at := range []int{math.MinInt, -1, 0, 201, math.MaxInt} {
			for _, n := range []int64{none, least, -1, 0, 1, greatest} {
				l = append(l, Token{kind, at, rep(`"`, 3), n})
			}
		}
	}
	holdText(t, l)
	for _, x := range l {
		holdText(t, tokens(x))
	}
}

// FuzzAll holds all calls against the document's words.
func FuzzAll(f *testing.F) {
	for _, s := range someTexts() {
		f.Add(s, 2, int64(12345))
		f.Add(s+`1+"a""b"`, 6, none)
	}
	f.Fuzz(func(t *testing.T, s string, kind int, n int64) {
		for _, w := range []string{s, s[:min(200, len(s))], strings.ToUpper(s), marks(s), strings.ToUpper(s) + marks(s)} {
			holdLex(t, w)
			holdPlain(t, w)
			holdAgain(t, w)
			holdBlanks(t, w, 1)
			l := append(tokensOf(w), Token{kind, 0, w, n}, Token{kind % 8, 0, s, n}, num(0, n), str(0, s), end(0))
			holdText(t, l)
		}
	})
}
