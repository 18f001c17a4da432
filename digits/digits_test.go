package digits

import (
	"math"
	"math/big"
	"math/rand"
	"regexp"
	"strings"
	"testing"
)

// The greatest decimal, the least one, and the one number of 64 bits that may not be.
const (
	most  = int64(9223372036854775807)
	least = int64(-9223372036854775807)
	none  = int64(math.MinInt64)
)

// These are the texts of the greatest decimal, and of one ten-thousandth more.
const (
	mostText = "922337203685477.5807"
	moreText = "922337203685477.5808"
)

// The forms of the chapter: of a decimal's text, of what Read takes, and of what Lead takes of a text's beginning.
var (
	told = regexp.MustCompile(`\A(0|-?[1-9][0-9]*|-?(0|[1-9][0-9]*)\.[0-9]{0,3}[1-9])\z`)
	read = regexp.MustCompile(`\A-?[0-9]+(\.[0-9]{1,4})?\z`)
	lead = regexp.MustCompile(`\A[0-9]{1,30}(\.[0-9]{1,4})?`)
)

// textByWords is the document's word on Text.
func textByWords(x int64) string {
	if x == none {
		return ""
	}
	return shortest(big.NewRat(x, 10000))
}

// shortest is a number as text, with no more digits behind the point than it needs.
func shortest(x *big.Rat) string {
	return strings.TrimSuffix(strings.TrimRight(x.FloatString(4), "0"), ".")
}

// meantByWords is the document's word on what a number means that is written in digits: it may have no such decimal.
func meantByWords(t string) (int64, bool) {
	exact, ok := new(big.Rat).SetString(t)
	if !ok {
		return 0, false
	}
	exact.Mul(exact, big.NewRat(10000, 1))
	if !exact.IsInt() || !exact.Num().IsInt64() || exact.Num().Int64() == none {
		return 0, false
	}
	return exact.Num().Int64(), true
}

// parseByWords is the document's word on Parse.
func parseByWords(t string) (int64, bool) {
	if !told.MatchString(t) {
		return 0, false
	}
	return meantByWords(t)
}

// readByWords is the document's word on Read.
func readByWords(t string) (int64, bool) {
	if len(t) > 40 || !read.MatchString(t) {
		return 0, false
	}
	return meantByWords(t)
}

// leadByWords is the document's word on Lead.
func leadByWords(t string) (int64, int, bool) {
	number := lead.FindString(t)
	if number == "" {
		return 0, 0, false
	}
	x, ok := meantByWords(number)
	if !ok {
		return 0, 0, false
	}
	return x, len(number), true
}

// holdText holds Text against the document's words, and what is told against what is read back.
func holdText(t *testing.T, x int64) {
	t.Helper()
	w := textByWords(x)
	if got := Text(x); got != w {
		t.Errorf("Text(%d): %q, not %q", x, got, w)
	}
	if got, ok := Parse(w); ok != (x != none) || ok && got != x {
		t.Errorf("Parse(%q), the Text of %d: %d, %v", w, x, got, ok)
	}
	if got, ok := Read(w); ok != (x != none) || ok && got != x {
		t.Errorf("Read(%q), the Text of %d: %d, %v", w, x, got, ok)
	}
}

// holdTexts holds what reads texts against the document's words.
func holdTexts(t *testing.T, w string) {
	t.Helper()
	want, wantOk := parseByWords(w)
	if got, ok := Parse(w); got != want || ok != wantOk {
		t.Errorf("Parse(%.60q): %d, %v; not %d, %v", w, got, ok, want, wantOk)
	}
	want, wantOk = readByWords(w)
	if got, ok := Read(w); got != want || ok != wantOk {
		t.Errorf("Read(%.60q): %d, %v; not %d, %v", w, got, ok, want, wantOk)
	}
	want, wantSize, wantOk := leadByWords(w)
	if got, size, ok := Lead(w); got != want || size != wantSize || ok != wantOk {
		t.Errorf("Lead(%.60q): %d, %d, %v; not %d, %d, %v", w, got, size, ok, want, wantSize, wantOk)
	}
}

// asked is what is asked of a call of a text: the decimal that it means, and, of Lead, how many bytes that has.
type asked struct {
	t    string
	want int64
	size int
}

// ask holds Parse or Read against the decimals that it should answer.
func ask(t *testing.T, name string, call func(t string) (int64, bool), l []asked) {
	t.Helper()
	for _, x := range l {
		if got, ok := call(x.t); got != x.want || !ok {
			t.Errorf("%s(%q): %d, %v; not %d", name, x.t, got, ok, x.want)
		}
	}
}

// nothing holds that Parse or Read answers 0 and false.
func nothing(t *testing.T, name string, call func(t string) (int64, bool), l ...string) {
	t.Helper()
	for _, w := range l {
		if got, ok := call(w); got != 0 || ok {
			t.Errorf("%s(%.60q): %d, %v", name, w, got, ok)
		}
	}
}

// askLead holds Lead against the decimals that it should answer.
func askLead(t *testing.T, l []asked) {
	t.Helper()
	for _, x := range l {
		if got, size, ok := Lead(x.t); got != x.want || size != x.size || !ok {
			t.Errorf("Lead(%.60q): %d, %d, %v; not %d, %d", x.t, got, size, ok, x.want, x.size)
		}
	}
}

// noLead holds that Lead answers 0, 0 and false.
func noLead(t *testing.T, l ...string) {
	t.Helper()
	for _, w := range l {
		if got, size, ok := Lead(w); got != 0 || size != 0 || ok {
			t.Errorf("Lead(%.60q): %d, %d, %v", w, got, size, ok)
		}
	}
}

// edges is numbers about 0, about each power of 10 and of 2, and about both ends of the room.
func edges() []int64 {
	l := []int64{none}
	about := func(x int64) {
		for i := int64(-1); i <= 1; i++ {
			l = append(l, x+i, -x-i)
		}
	}
	for power := int64(1); power <= most/10; power *= 10 {
		about(power)
		about(power * 9)
	}
	for power := range 63 {
		about(1 << power)
	}
	for _, x := range []int64{0, 5000, 12345, 125000, 1000001, 9223372036854770000, 9223372036854775000, most - 1} {
		about(x)
	}
	return l
}

// someNumbers is numbers of any size and sign, as many of few bits as of many.
func someNumbers(count int) []int64 {
	chance := rand.New(rand.NewSource(11))
	l := []int64{}
	for range count {
		l = append(l, int64(chance.Uint64())>>chance.Intn(64))
	}
	return l
}

// noughts is so many digits 0.
func noughts(count int) string { return strings.Repeat("0", count) }

// noTexts is what has no number's form at all, neither as a decimal's text nor with noughts more.
func noTexts() []string {
	return []string{
		"", "-", "--", "--1", "-1-", "1-", "1-2", "- 1", "+", "+1", "-+1", "+-1", "1+", "1+2", // signs
		" ", " 1", "1 ", "1 2", "-1 ", " -1", "1 .5", "1. 5", "1.5 ", " 1.5", "\t1", "1\n", "\n1", "1.5\n", "1\r", "1\x00", "\x001", // blanks
		".", "-.", ".5", "-.5", "5.", "-5.", "0.", "-0.", "1..2", "1.2.", "1.2.3", ".1.2", "..1", "1.-2", "1.+2", "-1.-2", "1-.2", // points
		"1.23456", "1.00000", "0.00001", "1.23450", "-1.23456", "0.00000", "0.000000000000", // more than four places
		"1,5", "1'000", "1_000", "1_0", "0x1", "0b1", "0o7", "1e2", "1E2", "1e-2", "1e", "inf", "Inf", "-inf", "NaN", "nan", "infinity", "1/2", "3/1", "a", "1a", "a1", "-a", "$1", "1%", "(1)", "\"1\"", "TRUE",
		"١", "１", "1٣", "２.５", "1．5", "−1", "–1", "½", "²", "1²", "\xff", "1\xff", "\xff1", "\x80", "1.\x80", "1.5\x80", "-\xc3", "\u00a01", "1\u2009", "\ufeff1",
		"#DIV", "1.5.5", "-1.5-", "0-", "-0-", "00-",
		strings.Repeat("-", 40), strings.Repeat(".", 40), strings.Repeat("1.", 20), strings.Repeat("-1", 20),
	}
}

// noRoom is what has a number's form, but no decimal: just beyond the room, far beyond it, and such that its ten-thousandths, of which no more than 64 bits are kept, would be within.
func noRoom() []string {
	l := []string{moreText, "922337203685477.5809", "922337203685477.581", "922337203685477.59", "922337203685477.6", "922337203685478", "922337203685478.0001", "1000000000000000", "9999999999999999",
		"9223372036854775807", "9223372036854775808", "18446744073709551615", "18446744073709551616", strings.Repeat("9", 29), "1" + noughts(29), strings.Repeat("9", 30), strings.Repeat("1", 30)}
	round := new(big.Int).Lsh(big.NewInt(1), 64)
	for _, times := range []int64{1, 2, 3, 4, 7, 1000, 1 << 40} {
		for _, more := range []int64{-1, 0, 1, 10000, 12345, -10000, most, least} {
			x := new(big.Int).Mul(round, big.NewInt(times))
			x.Add(x, big.NewInt(more))
			l = append(l, shortest(new(big.Rat).SetFrac(x, big.NewInt(10000))))
		}
	}
	// 10000 times these are whole rounds of 2^64, and some more.
	return append(l, "1152921504606846976", "1152921504606846977", "1844674407370956", "2305843009213693952", "1844674407370955.1616", "1844674407370955.1617")
}

// P11.1

func TestText(t *testing.T) {
	for _, x := range []struct {
		x    int64
		want string
	}{
		{0, "0"}, {1, "0.0001"}, {-1, "-0.0001"}, {10, "0.001"}, {-10, "-0.001"}, {100, "0.01"}, {-100, "-0.01"}, {1000, "0.1"}, {-1000, "-0.1"}, {10000, "1"}, {-10000, "-1"},
		{5, "0.0005"}, {50, "0.005"}, {500, "0.05"}, {5000, "0.5"}, {-5000, "-0.5"}, {9999, "0.9999"}, {-9999, "-0.9999"}, {10001, "1.0001"}, {-10001, "-1.0001"},
		{70000, "7"}, {-70000, "-7"}, {100000, "10"}, {-100000, "-10"}, {1000000, "100"}, {-1230000, "-123"}, {10000000000, "1000000"},
		{125000, "12.5"}, {-125000, "-12.5"}, {122500, "12.25"}, {-122500, "-12.25"}, {121250, "12.125"}, {-121250, "-12.125"}, {120625, "12.0625"}, {-120625, "-12.0625"},
		{12345, "1.2345"}, {12340, "1.234"}, {12300, "1.23"}, {12000, "1.2"}, {10200, "1.02"}, {10020, "1.002"}, {10002, "1.0002"}, {1000100, "100.01"}, {1010100, "101.01"}, {100001000, "10000.1"},
		{most, mostText}, {least, "-" + mostText}, {most - 1, "922337203685477.5806"}, {least + 1, "-922337203685477.5806"}, {most - 7, "922337203685477.58"}, {least + 7, "-922337203685477.58"},
		{9223372036854770000, "922337203685477"}, {-9223372036854770000, "-922337203685477"}, {1000000000000000000, "100000000000000"},
		{none, ""},
	} {
		if got := Text(x.x); got != x.want {
			t.Errorf("Text(%d): %q, not %q", x.x, got, x.want)
		}
	}
}

func TestTextByItsWords(t *testing.T) {
	for x := int64(-30000); x <= 30000; x++ {
		holdText(t, x)
	}
	for _, x := range append(edges(), someNumbers(20000)...) {
		holdText(t, x)
	}
}

func TestParse(t *testing.T) {
	ask(t, "Parse", Parse, []asked{
		{t: "0"}, {t: "7", want: 70000}, {t: "-7", want: -70000}, {t: "10", want: 100000}, {t: "-100", want: -1000000}, {t: "-12.5", want: -125000}, {t: "12.25", want: 122500},
		{t: "0.0001", want: 1}, {t: "-0.0001", want: -1}, {t: "0.1", want: 1000}, {t: "-0.1", want: -1000}, {t: "0.01", want: 100}, {t: "0.001", want: 10}, {t: "0.1001", want: 1001}, {t: "0.9999", want: 9999}, {t: "-0.9999", want: -9999},
		{t: "1.5", want: 15000}, {t: "1.05", want: 10500}, {t: "1.005", want: 10050}, {t: "1.0005", want: 10005}, {t: "-1.0005", want: -10005}, {t: "10.0101", want: 100101}, {t: "1234567890", want: 12345678900000},
		{t: mostText, want: most}, {t: "-" + mostText, want: least}, {t: "922337203685477.5806", want: most - 1}, {t: "-922337203685477.5806", want: least + 1}, {t: "922337203685477", want: 9223372036854770000}, {t: "922337203685477.58", want: most - 7},
	})
}

func TestParseOfNoText(t *testing.T) {
	nothing(t, "Parse", Parse, noTexts()...)
	for _, w := range noRoom() {
		if !told.MatchString(w) {
			t.Errorf("%q has not the form of a text", w)
		}
		nothing(t, "Parse", Parse, w, "-"+w)
	}
}

// TestParseOfOtherWays has decimals that are written in another way than their texts are.
func TestParseOfOtherWays(t *testing.T) {
	nothing(t, "Parse", Parse,
		"-0", "00", "-00", "000", "01", "-01", "007", "-007", "00.5", "-00.5", "01.5", "0000000000000000000000015", // ahead
		"0.0", "-0.0", "0.00", "0.0000", "-0.0000", "1.0", "-1.0", "1.00", "1.000", "1.0000", "1.50", "1.500", "1.5000", "-1.5000", "1.2340", "10.10", "0.0010", // behind
		"0"+mostText, "-0"+mostText, "922337203685477.5800", "922337203685477.0", noughts(40), "-"+noughts(39), noughts(35)+"1.25", noughts(41))
	for _, x := range append(edges(), someNumbers(2000)...) {
		if x == none {
			continue
		}
		w := textByWords(x)
		if strings.Contains(w, ".") {
			nothing(t, "Parse", Parse, w+"0", "0"+w, strings.Replace(w, ".", "..", 1), strings.Replace(w, "-", "-0", 1)+"0")
		} else {
			nothing(t, "Parse", Parse, w+".", w+".0", w+".0000", "0"+w)
		}
		nothing(t, "Parse", Parse, "+"+w, "-0"+w, w+"-", w+" ", " "+w)
	}
}

// P11.2

func TestRead(t *testing.T) {
	ask(t, "Read", Read, []asked{
		{t: "0"}, {t: "-0"}, {t: "00"}, {t: "-00"}, {t: "0.0"}, {t: "-0.0"}, {t: "0.0000"}, {t: "-0.0000"}, {t: "000.000"},
		{t: "7", want: 70000}, {t: "-7", want: -70000}, {t: "007", want: 70000}, {t: "-007", want: -70000}, {t: "10", want: 100000}, {t: "010", want: 100000}, {t: "08", want: 80000}, {t: "-0100", want: -1000000},
		{t: "1.0", want: 10000}, {t: "1.00", want: 10000}, {t: "1.000", want: 10000}, {t: "1.0000", want: 10000}, {t: "-1.0000", want: -10000}, {t: "1.5", want: 15000}, {t: "1.50", want: 15000}, {t: "1.500", want: 15000}, {t: "1.5000", want: 15000}, {t: "-01.5000", want: -15000},
		{t: "1.05", want: 10500}, {t: "1.050", want: 10500}, {t: "1.2345", want: 12345}, {t: "001.2340", want: 12340}, {t: "-12.5", want: -125000}, {t: "0.0001", want: 1}, {t: "-0.0001", want: -1}, {t: "00.0001", want: 1}, {t: "-00.0010", want: -10},
		{t: mostText, want: most}, {t: "-" + mostText, want: least}, {t: "0" + mostText, want: most}, {t: "-0" + mostText, want: least}, {t: "922337203685477.5800", want: most - 7}, {t: "922337203685477.0000", want: 9223372036854770000}, {t: "00922337203685477", want: 9223372036854770000},
	})
}

func TestReadOfNoText(t *testing.T) {
	nothing(t, "Read", Read, noTexts()...)
	for _, w := range noRoom() {
		nothing(t, "Read", Read, w, "-"+w, "0"+w, "-00"+w)
	}
}

// TestLongTexts reads texts of 40 bytes, and of one more, and of one less.
func TestLongTexts(t *testing.T) {
	ask(t, "Read", Read, []asked{
		{t: noughts(39)}, {t: noughts(40)}, {t: "-" + noughts(38)}, {t: "-" + noughts(39)}, {t: noughts(35) + ".0000"}, {t: "-" + noughts(34) + ".0000"},
		{t: noughts(39) + "1", want: 10000}, {t: "-" + noughts(38) + "1", want: -10000}, {t: noughts(34) + "1.25", want: 12500}, {t: noughts(36) + "1.25", want: 12500}, {t: "-" + noughts(35) + "1.25", want: -12500}, {t: noughts(38) + ".5", want: 5000},
		{t: noughts(20) + mostText, want: most}, {t: "-" + noughts(19) + mostText, want: least}, {t: noughts(25) + "922337203685477", want: 9223372036854770000},
	})
	nothing(t, "Read", Read,
		noughts(41), "-"+noughts(40), noughts(36)+".0000", "-"+noughts(35)+".0000", noughts(40)+"1", "-"+noughts(39)+"1", noughts(37)+"1.25", "-"+noughts(36)+"1.25", noughts(39)+".5",
		noughts(21)+mostText, "-"+noughts(20)+mostText, noughts(42), noughts(64), noughts(255)+"1", noughts(256), noughts(1<<20), strings.Repeat("9", 40), strings.Repeat("9", 41), "-"+strings.Repeat("9", 39), "1"+noughts(39), "1"+noughts(1<<20),
		noughts(20)+moreText, "-"+noughts(19)+moreText)
	for _, x := range []int64{0, 1, 10, 5000, 10000, 12345, 1000000, 123450, most, 9223372036854770000} {
		for ahead := range 45 {
			w := noughts(ahead) + textByWords(x)
			holdTexts(t, w)
			holdTexts(t, "-"+w)
		}
	}
}

// TestEachByteAtEachPlace puts each byte at each place of texts that are read: in the place of another one, and between two.
func TestEachByteAtEachPlace(t *testing.T) {
	for _, w := range []string{"", "7", "-7", "12.5", "-0.0625", "007.50", "31.4159", mostText, "-" + mostText, moreText, noughts(39), noughts(40), "-" + noughts(33) + "1.25"} {
		for b := range 256 {
			for i := range len(w) + 1 {
				holdTexts(t, w[:i]+string([]byte{byte(b)})+w[i:])
				if i < len(w) {
					holdTexts(t, w[:i]+string([]byte{byte(b)})+w[i+1:])
				}
			}
		}
	}
}

// TestAllShortTexts has all texts of at most seven bytes that these bytes make.
func TestAllShortTexts(t *testing.T) {
	var look func(w string)
	look = func(w string) {
		holdTexts(t, w)
		if len(w) < 7 {
			for _, b := range []byte("019.-") {
				look(w + string([]byte{b}))
			}
		}
	}
	look("")
}

// TestAboutTheRoom has numbers about both ends of the room, of the last of which each digit is another one, or one is more or less.
func TestAboutTheRoom(t *testing.T) {
	for _, w := range []string{mostText, moreText, "922337203685477", "922337203685478"} {
		for i := range len(w) {
			for d := range 10 {
				if w[i] == '.' {
					continue
				}
				near := w[:i] + string([]byte{byte('0' + d)}) + w[i+1:]
				for _, x := range []string{near, near + "0", "0" + near, near[:i] + near[i+1:]} {
					holdTexts(t, x)
					holdTexts(t, "-"+x)
				}
			}
		}
	}
	for _, w := range noRoom() {
		for _, x := range []string{w, "-" + w, "0" + w, w + "0", strings.Replace(w, ".", "", 1)} {
			holdTexts(t, x)
		}
	}
}

// P11.3

func TestLead(t *testing.T) {
	askLead(t, []asked{
		{"0", 0, 1}, {"7", 70000, 1}, {"42", 420000, 2}, {"007", 70000, 3}, {"7a", 70000, 1}, {"7 8", 70000, 1}, {"42)", 420000, 2}, {"1+2", 10000, 1}, {"1-2", 10000, 1}, {"12,5", 120000, 2}, {"1e5", 10000, 1}, {"0x1", 0, 1}, {"3\x00", 30000, 1}, {"3\xff", 30000, 1}, {"3٣", 30000, 1},
		{"1.", 10000, 1}, {"1..5", 10000, 1}, {"1.a", 10000, 1}, {"1. 5", 10000, 1}, {"1.-5", 10000, 1}, {"1.\xff", 10000, 1}, {"1.٣", 10000, 1}, {"00.", 0, 2}, {"1 .5", 10000, 1}, {"1a.5", 10000, 1},
		{"1.5", 15000, 3}, {"1.25", 12500, 4}, {"1.125", 11250, 5}, {"1.0625", 10625, 6}, {"1.5a", 15000, 3}, {"1.25*3", 12500, 4}, {"1.125)", 11250, 5}, {"1.0625 ", 10625, 6}, {"1.5.5", 15000, 3}, {"1.25.", 12500, 4}, {"1.125-", 11250, 5}, {"1.0625.1", 10625, 6},
		{"1.03125", 10312, 6}, {"1.23456789", 12345, 6}, {"1.99999", 19999, 6}, {"0.00009", 0, 6}, {"0.00019", 1, 6}, {"1.00000", 10000, 6}, // what is behind the fourth digit is neither taken nor rounded
		{"0.0", 0, 3}, {"0.0000", 0, 6}, {"0.00000", 0, 6}, {"00.50", 5000, 5}, {"01.5000", 15000, 7}, {"1.0", 10000, 3}, {"0.0001", 1, 6}, {"0.1", 1000, 3}, {"0.05", 500, 4},
	})
	noLead(t, "", "-", "-1", "--1", "+1", ".", ".5", "..5", " 1", "\t1", "\n1", "a", "a1", "$1", "\"1\"", "(1", "#1", ",1", "/1", ":1", "\x001", "\xff1", "١", "１", "½", "-0", "-.5")
}

// TestLongLeads has rows of digits about the thirty that are taken.
func TestLongLeads(t *testing.T) {
	askLead(t, []asked{
		{noughts(28), 0, 28}, {noughts(29), 0, 29}, {noughts(30), 0, 30}, {noughts(31), 0, 30}, {noughts(32), 0, 30}, {noughts(256), 0, 30}, {noughts(1 << 20), 0, 30},
		{noughts(28) + "7", 70000, 29}, {noughts(29) + "7", 70000, 30}, {noughts(30) + "7", 0, 30}, {noughts(29) + "77", 70000, 30}, {noughts(28) + "777", 770000, 30},
		{noughts(29) + ".", 0, 29}, {noughts(30) + ".", 0, 30}, {noughts(31) + ".", 0, 30}, {noughts(29) + ".5", 5000, 31}, {noughts(30) + ".5", 5000, 32}, {noughts(31) + ".5", 0, 30}, {noughts(29) + "7.5", 75000, 32}, {noughts(30) + "7.5", 0, 30},
		{noughts(29) + "7.a", 70000, 30}, {noughts(29) + "7.25a", 72500, 33}, {noughts(29) + "7.125", 71250, 34}, {noughts(29) + "7.0625", 70625, 35}, {noughts(29) + "7.06255", 70625, 35}, {noughts(30) + ".00019", 1, 35},
		{noughts(15) + mostText, most, 35}, {noughts(15) + "9223372036854775807", 9223372036854770000, 30}, {noughts(15) + "922337203685477", 9223372036854770000, 30}, {noughts(16) + "922337203685477.5807", 922337203685470000, 30},
	})
	noLead(t, strings.Repeat("9", 29), strings.Repeat("9", 30), strings.Repeat("9", 31), strings.Repeat("1", 100), strings.Repeat("9", 29)+".5", strings.Repeat("9", 30)+".5", strings.Repeat("9", 31)+".5", "1"+noughts(28), "1"+noughts(29), "1"+noughts(30), "1"+noughts(1<<20),
		noughts(15)+moreText, noughts(14)+"9223372036854775807", noughts(14)+"922337203685478")
}

// TestLeadsAboutTheRoom has numbers just within the room, and just beyond it.
func TestLeadsAboutTheRoom(t *testing.T) {
	askLead(t, []asked{
		{mostText, most, 20}, {mostText + "9", most, 20}, {mostText + "a", most, 20}, {mostText + ".", most, 20}, {"922337203685477.5806", most - 1, 20}, {"922337203685477.580", most - 7, 19}, {"922337203685477.58a", most - 7, 18}, {"922337203685477.5", 9223372036854775000, 17},
		{"922337203685477", 9223372036854770000, 15}, {"922337203685477.", 9223372036854770000, 15}, {"922337203685477.a", 9223372036854770000, 15}, {"922337203685477 5", 9223372036854770000, 15}, {"922337203685476.9999", 9223372036854769999, 20},
	})
	noLead(t, moreText, moreText+"0", moreText+"a", "922337203685477.5809", "922337203685477.581", "922337203685477.59a", "922337203685477.6", "922337203685477.9", "922337203685477.9999.", "922337203685478", "922337203685478.", "922337203685478.a", "922337203685478.0", "922337203685478a")
	for _, w := range noRoom() {
		noLead(t, w, w+"a", w+" 1", "00"+w, "-"+w)
	}
}

// TestLeadsOfAnything has whatever may stand behind a number.
func TestLeadsOfAnything(t *testing.T) {
	for _, x := range append(edges(), someNumbers(500)...) {
		if x < 0 {
			continue
		}
		for _, behind := range []string{"", "0", "7", ".", ".0", ".7", "..7", ".00000", ".77777", "-", "-1", "+1", " ", "a", "\"", "\x80", "e5", "00000000000000000", ".-1"} {
			holdTexts(t, textByWords(x)+behind)
		}
	}
}

// P11.4

// TestWhatIsToldIsReadBack writes decimals as texts, and with noughts ahead and behind.
func TestWhatIsToldIsReadBack(t *testing.T) {
	for _, x := range append(edges(), someNumbers(20000)...) {
		if x == none {
			continue
		}
		w := Text(x)
		ask(t, "Parse", Parse, []asked{{t: w, want: x}})
		ask(t, "Read", Read, []asked{{t: w, want: x}})
		sign, size := strings.TrimSuffix(w, strings.TrimPrefix(w, "-")), strings.TrimPrefix(w, "-")
		if x >= 0 {
			askLead(t, []asked{{w, x, len(w)}})
		} else {
			noLead(t, w)
			askLead(t, []asked{{size, -x, len(size)}})
		}
		whole, part, _ := strings.Cut(size, ".")
		ask(t, "Read", Read, []asked{{t: sign + "0" + size, want: x}, {t: sign + noughts(17) + size, want: x}, {t: sign + whole + "." + part + noughts(4-len(part)), want: x}})
	}
}

// TestReadTakesWhatParseTakes holds Read against Parse.
func TestReadTakesWhatParseTakes(t *testing.T) {
	l := append(noTexts(), noRoom()...)
	for _, x := range append(edges(), someNumbers(2000)...) {
		w := textByWords(x)
		l = append(l, w, "0"+w, w+"0", w+".", w+"5", "-"+w, "9"+w, noughts(20)+w)
	}
	taken := 0
	for _, w := range l {
		parsed, ok := Parse(w)
		if !ok {
			continue
		}
		taken++
		if got, ok := Read(w); !ok || got != parsed {
			t.Errorf("Read(%q): %d, %v; Parse: %d", w, got, ok, parsed)
		}
		if Text(parsed) != w {
			t.Errorf("Parse(%q): %d, whose Text is %q", w, parsed, Text(parsed))
		}
	}
	if taken < 2000 {
		t.Errorf("Parse took %d of %d texts", taken, len(l))
	}
}

// FuzzAll holds all calls against the document's words.
func FuzzAll(f *testing.F) {
	for _, w := range append(noTexts(), noRoom()...) {
		f.Add(w, most)
	}
	for _, x := range edges() {
		f.Add(textByWords(x), x)
	}
	f.Fuzz(func(t *testing.T, w string, x int64) {
		holdText(t, x)
		holdTexts(t, w)
		holdTexts(t, textByWords(x)+w)
		holdTexts(t, w+textByWords(x))
	})
}
