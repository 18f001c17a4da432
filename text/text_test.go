package text

import (
	"math"
	"math/big"
	"math/rand"
	"regexp"
	"slices"
	"strings"
	"testing"
)

// The greatest decimal, the least one, and the one number of 64 bits that may not be.
const (
	most  = int64(9223372036854775807)
	least = int64(-9223372036854775807)
	none  = int64(math.MinInt64)
)

// room is how many bytes a text may have.
const room = 256

// The chapter's words: a row of letters, and blanks that stand together.
var (
	word   = regexp.MustCompile(`[A-Za-z]+`)
	blanks = regexp.MustCompile(` +`)
)

// upperByWords, lowerByWords, properByWords and trimByWords are the document's words on Upper, Lower, Proper and Trim.

func upperByWords(t string) string { return word.ReplaceAllStringFunc(t, strings.ToUpper) }

func lowerByWords(t string) string { return word.ReplaceAllStringFunc(t, strings.ToLower) }

func properByWords(t string) string {
	return word.ReplaceAllStringFunc(t, func(w string) string {
		return strings.ToUpper(w[:1]) + strings.ToLower(w[1:])
	})
}

func trimByWords(t string) string { return strings.Trim(blanks.ReplaceAllString(t, " "), " ") }

// roomy is the document's word on what is made: the empty text and false, if it has no room.
func roomy(made string) (string, bool) {
	if len(made) > room {
		return "", false
	}
	return made, true
}

// reptByWords is the document's word on Rept.
func reptByWords(t string, n int) (string, bool) {
	size := new(big.Int).Mul(big.NewInt(int64(len(t))), big.NewInt(int64(n)))
	if n < 0 || size.Cmp(big.NewInt(room)) > 0 {
		return "", false
	}
	made := ""
	for i := 0; i < n && t != ""; i++ {
		made += t
	}
	return made, true
}

// putByWords is the document's word on Put.
func putByWords(t, old, with string) (string, bool) {
	made := ""
	for t != "" {
		if len(old) > 0 && len(old) <= len(t) && t[:len(old)] == old {
			made, t = made+with, t[len(old):]
		} else {
			made, t = made+t[:1], t[1:]
		}
	}
	return roomy(made)
}

// joinByWords is the document's word on Join.
func joinByWords(l []string) (string, bool) {
	made := ""
	for _, t := range l {
		made += t
	}
	return roomy(made)
}

// fixedByWords is the document's word on Fixed: big numbers are told with so many digits, of halves those further from 0.
func fixedByWords(x int64, places int) (string, bool) {
	if x == none || places < 0 || places > 4 {
		return "", false
	}
	told := big.NewRat(x, 10000).FloatString(places)
	rounded, _ := new(big.Rat).SetString(told)
	if rounded.Sign() == 0 {
		told = strings.TrimPrefix(told, "-")
	}
	rounded.Mul(rounded, big.NewRat(10000, 1))
	if rounded.Cmp(big.NewRat(most, 1)) > 0 || rounded.Cmp(big.NewRat(least, 1)) < 0 {
		return "", false
	}
	return told, true
}

// hold holds what changes a text alone against the document's words, and done twice against done once.
func hold(t *testing.T, w string) {
	t.Helper()
	for _, c := range []struct {
		name        string
		call, words func(string) string
	}{
		{"Upper", Upper, upperByWords}, {"Lower", Lower, lowerByWords}, {"Proper", Proper, properByWords}, {"Trim", Trim, trimByWords},
	} {
		got := c.call(w)
		if want := c.words(w); got != want {
			t.Errorf("%s(%.60q): %.60q, not %.60q", c.name, w, got, want)
		}
		if twice := c.call(got); twice != got {
			t.Errorf("%s(%.60q), done twice: %.60q, and once: %.60q", c.name, w, twice, got)
		}
	}
}

// holdRept, holdPut, holdJoin and holdFixed hold Rept, Put, Join and Fixed against the document's words.

func holdRept(t *testing.T, w string, n int) {
	t.Helper()
	got, ok := Rept(w, n)
	if want, is := reptByWords(w, n); got != want || ok != is {
		t.Errorf("Rept(%.60q, %d): %.60q, %v, not %.60q, %v", w, n, got, ok, want, is)
	}
}

func holdPut(t *testing.T, w, old, with string) {
	t.Helper()
	got, ok := Put(w, old, with)
	if want, is := putByWords(w, old, with); got != want || ok != is {
		t.Errorf("Put(%.60q, %.60q, %.60q): %.60q, %v, not %.60q, %v", w, old, with, got, ok, want, is)
	}
	if old != "" && strings.Contains(w, old) {
		return
	}
	if want, is := roomy(w); got != want || ok != is {
		t.Errorf("Put(%.60q, %.60q, %.60q) of an old that is not there: %.60q, %v", w, old, with, got, ok)
	}
}

func holdJoin(t *testing.T, l []string) {
	t.Helper()
	got, ok := Join(l)
	if want, is := joinByWords(l); got != want || ok != is {
		t.Errorf("Join(%.60q): %.60q, %v, not %.60q, %v", l, got, ok, want, is)
	}
}

func holdFixed(t *testing.T, x int64, places int) {
	t.Helper()
	got, ok := Fixed(x, places)
	if want, is := fixedByWords(x, places); got != want || ok != is {
		t.Errorf("Fixed(%d, %d): %q, %v, not %q, %v", x, places, got, ok, want, is)
	}
}

// turn is a text, and what it should become.
type turn struct{ t, want string }

// change holds one of the calls that take a text alone.
func change(t *testing.T, name string, call func(t string) string, l []turn) {
	t.Helper()
	for _, c := range l {
		if got := call(c.t); got != c.want {
			t.Errorf("%s(%.60q): %.60q, not %.60q", name, c.t, got, c.want)
		}
	}
}

// as is so many letters a.
func as(count int) string { return strings.Repeat("a", count) }

// someTexts is texts of bytes that matter to some call, of up to so many, the same in each run.
func someTexts(count, size int) []string {
	chance := rand.New(rand.NewSource(14))
	pieces := []string{"a", "z", "A", "Z", "m", "Q", "@", "[", "`", "{", " ", " ", "  ", "\t", "\n", "'", "_", "7", "\x00", "\x80", "\xff", "\xc3", "\xa9", "\u00e9", "\u00c9", "\u0130", "\u0131", "\u017f", "\u212a", "\u00df", "\u01c5", "\u00a0", "\u65e5", "\U0001f600"}
	l := []string{}
	for range count {
		t := ""
		for range chance.Intn(size + 1) {
			t += pieces[chance.Intn(len(pieces))]
		}
		l = append(l, t)
	}
	return l
}

// P14.1

func TestUpper(t *testing.T) {
	change(t, "Upper", Upper, []turn{
		{"", ""}, {"a", "A"}, {"z", "Z"}, {"A", "A"}, {"Z", "Z"}, {"oculus", "OCULUS"}, {"OCULUS", "OCULUS"}, {"oCuLuS", "OCULUS"}, {"Ab, cD", "AB, CD"},
		{"abcdefghijklmnopqrstuvwxyz", "ABCDEFGHIJKLMNOPQRSTUVWXYZ"}, {"ABCDEFGHIJKLMNOPQRSTUVWXYZ", "ABCDEFGHIJKLMNOPQRSTUVWXYZ"},
		{"@`[{", "@`[{"}, {"`a{", "`A{"}, {"0a9_z", "0A9_Z"}, {"  a\tb\nc  ", "  A\tB\nC  "},
		{"caf\u00e9s", "CAF\u00e9S"}, {"\u00df\u0131\u017f\u01c6\u00b5\u00ff", "\u00df\u0131\u017f\u01c6\u00b5\u00ff"}, {"a\u65e5b\U0001f600c", "A\u65e5B\U0001f600C"},
		{"a\xffb", "A\xffB"}, {"\xe1\xfa\xc3", "\xe1\xfa\xc3"}, {"\xc3a", "\xc3A"}, {"a\x00b\x7f", "A\x00B\x7f"}, {"\xef\xbf\xbda\xef", "\xef\xbf\xbdA\xef"},
		{as(256), strings.Repeat("A", 256)}, {as(257), strings.Repeat("A", 257)}, {as(1 << 20), strings.Repeat("A", 1<<20)},
	})
}

func TestLower(t *testing.T) {
	change(t, "Lower", Lower, []turn{
		{"", ""}, {"a", "a"}, {"z", "z"}, {"A", "a"}, {"Z", "z"}, {"oculus", "oculus"}, {"OCULUS", "oculus"}, {"oCuLuS", "oculus"}, {"Ab, cD", "ab, cd"},
		{"ABCDEFGHIJKLMNOPQRSTUVWXYZ", "abcdefghijklmnopqrstuvwxyz"}, {"abcdefghijklmnopqrstuvwxyz", "abcdefghijklmnopqrstuvwxyz"},
		{"@`[{", "@`[{"}, {"@A[", "@a["}, {"0A9_Z", "0a9_z"}, {"  A\tB\nC  ", "  a\tb\nc  "},
		{"CAF\u00c9S", "caf\u00c9s"}, {"\u0130\u212a\u01c4\u00c0\u03a9", "\u0130\u212a\u01c4\u00c0\u03a9"}, {"A\u65e5B\U0001f600C", "a\u65e5b\U0001f600c"},
		{"A\xffB", "a\xffb"}, {"\xc1\xda\xc3", "\xc1\xda\xc3"}, {"\xc3A", "\xc3a"}, {"A\x00B\x7f", "a\x00b\x7f"}, {"\xef\xbf\xbdA\xef", "\xef\xbf\xbda\xef"},
		{strings.Repeat("A", 256), as(256)}, {strings.Repeat("A", 257), as(257)}, {strings.Repeat("A", 1<<20), as(1 << 20)},
	})
}

func TestProper(t *testing.T) {
	change(t, "Proper", Proper, []turn{
		{"", ""}, {"a", "A"}, {"A", "A"}, {"z", "Z"}, {"Z", "Z"}, {"ab", "Ab"}, {"Ab", "Ab"}, {"aB", "Ab"}, {"AB", "Ab"},
		{"oculus", "Oculus"}, {"OCULUS", "Oculus"}, {"oCULUS", "Oculus"}, {"OcUlUs", "Oculus"},
		{"one two", "One Two"}, {"ONE TWO", "One Two"}, {"oNE tWO", "One Two"}, {" one  two ", " One  Two "}, {"a b C d", "A B C D"}, {"one\ttwo\nTHREE", "One\tTwo\nThree"},
		{"1st", "1St"}, {"2ND", "2Nd"}, {"a1b22C333dE", "A1B22C333De"}, {"x9", "X9"},
		{"o'neil", "O'Neil"}, {"O'NEIL'S", "O'Neil'S"}, {"don't", "Don'T"}, {"my_own_NAME", "My_Own_Name"}, {"_a", "_A"}, {"co-OP", "Co-Op"},
		{"a@b[c`d{e", "A@B[C`D{E"}, {"A@B[C`D{E", "A@B[C`D{E"}, {"ab@cd", "Ab@Cd"}, {"ab[cd", "Ab[Cd"}, {"ab`cd", "Ab`Cd"}, {"ab{cd", "Ab{Cd"},
		{"caf\u00e9s", "Caf\u00e9S"}, {"\u00e9cole", "\u00e9Cole"}, {"\u00c9COLE", "\u00c9Cole"}, {"ab\u65e5CD", "Ab\u65e5Cd"}, {"ab\U0001f600cd", "Ab\U0001f600Cd"}, {"\u0130stanbul \u017fo", "\u0130Stanbul \u017fO"},
		{"ab\xffcd", "Ab\xffCd"}, {"AB\x80CD\x80", "Ab\x80Cd\x80"}, {"\xc3ab\xc3", "\xc3Ab\xc3"}, {"\xe1b", "\xe1B"}, {"ab\x00cd\x7fEF", "Ab\x00Cd\x7fEf"}, {"\xef\xbf\xbdab", "\xef\xbf\xbdAb"},
		{"...", "..."}, {"12 34", "12 34"}, {" ", " "}, {as(257), "A" + as(256)}, {as(1<<20) + " b", "A" + as(1<<20-1) + " B"},
	})
}

func TestTrim(t *testing.T) {
	change(t, "Trim", Trim, []turn{
		{"", ""}, {" ", ""}, {"  ", ""}, {"   ", ""}, {strings.Repeat(" ", 257), ""}, {strings.Repeat(" ", 1<<20), ""},
		{"a", "a"}, {" a", "a"}, {"a ", "a"}, {" a ", "a"}, {"   a", "a"}, {"a   ", "a"}, {"   a   ", "a"},
		{"a b", "a b"}, {"a  b", "a b"}, {"a   b", "a b"}, {"  a    b  c ", "a b c"}, {"a b c", "a b c"}, {" a b ", "a b"}, {"a b  ", "a b"}, {"  a b", "a b"},
		{"one  two   three    four", "one two three four"}, {"Ab  cD", "Ab cD"},
		// Other white space is no blank: it stays, and so do blanks beside it, one of them.
		{"\t", "\t"}, {"\n", "\n"}, {"\r\n", "\r\n"}, {"\ta\n", "\ta\n"}, {"\t\ta", "\t\ta"}, {"a\t\tb", "a\t\tb"}, {"a\n\nb", "a\n\nb"}, {"\v\f\x85\xa0", "\v\f\x85\xa0"},
		{" \t ", "\t"}, {" \t", "\t"}, {"\t ", "\t"}, {"\t  \t", "\t \t"}, {"a \tb", "a \tb"}, {"a  \t  b", "a \t b"}, {"  \n  a  \n  ", "\n a \n"}, {" \ta ", "\ta"}, {" a\n ", "a\n"},
		{"\u00a0", "\u00a0"}, {" \u00a0 ", "\u00a0"}, {"\u00a0\u00a0", "\u00a0\u00a0"}, {"\u2003  \u2003", "\u2003 \u2003"}, {"\u3000 ", "\u3000"}, {"\x00 \x00", "\x00 \x00"}, {" \x1f!\x21 ", "\x1f!\x21"},
		{" \xff  \x80 ", "\xff \x80"}, {"\xc3  \xa9", "\xc3 \xa9"}, {"  \u00e9  \u65e5  ", "\u00e9 \u65e5"}, {"\xa0 \xa0", "\xa0 \xa0"}, {" \xef\xbf\xbd ", "\xef\xbf\xbd"},
		{" " + as(256) + " ", as(256)}, {as(200) + "  " + as(200), as(200) + " " + as(200)}, {strings.Repeat(" a ", 1000), strings.Repeat("a ", 999) + "a"},
	})
}

// TestBytesByTheirWords has each byte alone and within a text, and each two bytes.
func TestBytesByTheirWords(t *testing.T) {
	for a := range 256 {
		one := string([]byte{byte(a)})
		for _, w := range []string{one, "ab" + one + "cd", "AB" + one + "CD", " " + one + "  " + one + " ", one + "a" + one, one + one + one} {
			hold(t, w)
		}
		for b := range 256 {
			hold(t, string([]byte{byte(a), byte(b)}))
		}
	}
}

// TestOnlyLettersChange tells what becomes of each byte by its number.
func TestOnlyLettersChange(t *testing.T) {
	for n := range 256 {
		c := byte(n)
		upper, lower := c, c
		if n >= 97 && n <= 122 {
			upper = c - 32
		}
		if n >= 65 && n <= 90 {
			lower = c + 32
		}
		one := string([]byte{c})
		change(t, "Upper", Upper, []turn{{one, string([]byte{upper})}})
		change(t, "Lower", Lower, []turn{{one, string([]byte{lower})}})
		change(t, "Proper", Proper, []turn{{one, string([]byte{upper})}})
		if n != 32 {
			change(t, "Trim", Trim, []turn{{one, one}, {one + " ", one}, {" " + one, one}})
		}
	}
}

// TestShortTextsByTheirWords has all texts of at most six bytes that these bytes make.
func TestShortTextsByTheirWords(t *testing.T) {
	var look func(w string)
	look = func(w string) {
		hold(t, w)
		if len(w) < 6 {
			for _, b := range []byte("aB \t\xc3") {
				look(w + string([]byte{b}))
			}
		}
	}
	look("")
}

func TestTextsByTheirWords(t *testing.T) {
	for _, w := range append(someTexts(5000, 12), someTexts(100, 400)...) {
		hold(t, w)
	}
}

// P14.2

// made is what a call should answer that tells whether what it makes has room.
type made struct {
	want string
	ok   bool
}

func TestRept(t *testing.T) {
	for _, c := range []struct {
		t string
		n int
		made
	}{
		{"ab", 0, made{"", true}}, {"ab", 1, made{"ab", true}}, {"ab", 2, made{"abab", true}}, {"ab", 5, made{"ababababab", true}}, {"\u00e9", 3, made{"\u00e9\u00e9\u00e9", true}}, {"\xff\x00", 2, made{"\xff\x00\xff\x00", true}}, {" ", 3, made{"   ", true}},
		{"ab", -1, made{}}, {"ab", -2, made{}}, {"ab", math.MinInt, made{}}, {"ab", math.MinInt + 1, made{}}, {"ab", -1 << 32, made{}}, {as(300), -1, made{}},
		{"", 0, made{"", true}}, {"", 1, made{"", true}}, {"", 2, made{"", true}}, {"", 256, made{"", true}}, {"", 257, made{"", true}}, {"", 1 << 32, made{"", true}}, {"", math.MaxInt, made{"", true}},
		{"", -1, made{}}, {"", math.MinInt, made{}},
		{"a", 255, made{as(255), true}}, {"a", 256, made{as(256), true}}, {"a", 257, made{}}, {"aaa", 85, made{as(255), true}}, {"aaa", 86, made{}}, {as(17), 15, made{as(255), true}},
		{"aa", 127, made{as(254), true}}, {"aa", 128, made{as(256), true}}, {"aa", 129, made{}}, {as(16), 16, made{as(256), true}}, {as(16), 17, made{}}, {as(17), 16, made{}}, {as(85), 3, made{as(255), true}}, {as(86), 3, made{}},
		{as(64), 4, made{as(256), true}}, {as(128), 2, made{as(256), true}}, {as(129), 2, made{}}, {as(128), 3, made{}}, {as(127), 2, made{as(254), true}},
		{as(255), 1, made{as(255), true}}, {as(256), 1, made{as(256), true}}, {as(257), 1, made{}}, {as(256), 2, made{}}, {as(257), 0, made{"", true}}, {as(1 << 20), 0, made{"", true}}, {as(1 << 20), 1, made{}}, {as(1 << 20), 1 << 20, made{}},
		// Counts whose product with the text's length leaves the type's range: what is left of it would be 0, small, or below 0.
		{"a", math.MaxInt, made{}}, {"aa", math.MaxInt, made{}}, {"aa", 1 << 62, made{}}, {"aaaa", 1 << 62, made{}}, {as(8), 1 << 61, made{}}, {as(256), 1 << 56, made{}}, {as(256), 1<<56 + 1, made{}}, {"aaa", 6148914691236517206, made{}}, {"aaa", 6148914691236517205, made{}}, {as(5), 3689348814741910324, made{}}, {as(257), math.MaxInt, made{}}, {"a", 1<<32 + 1, made{}}, {"a", 1 << 32, made{}},
	} {
		if got, ok := Rept(c.t, c.n); got != c.want || ok != c.ok {
			t.Errorf("Rept(%.60q, %d): %.60q, %v", c.t, c.n, got, ok)
		}
		holdRept(t, c.t, c.n)
	}
}

// TestReptByItsWords has all lengths and counts about the room.
func TestReptByItsWords(t *testing.T) {
	for size := range 260 {
		w := strings.Repeat("aB\xff", 87)[:size]
		for n := -2; n < 260; n++ {
			holdRept(t, w, n)
		}
		for bits := range 63 {
			holdRept(t, w, 1<<bits)
			holdRept(t, w, 1<<bits+1)
			holdRept(t, w, -1<<bits)
			holdRept(t, w, math.MaxInt-1<<bits)
		}
	}
}

func TestPut(t *testing.T) {
	for _, c := range []struct {
		t, old, with string
		want         string
	}{
		// Not there.
		{"", "a", "b", ""}, {"", "", "b", ""}, {"", "", "", ""}, {"abc", "d", "e", "abc"}, {"abc", "ac", "e", "abc"}, {"abc", "A", "e", "abc"}, {"abc", "abcd", "e", "abc"}, {"ab", "b ", "e", "ab"}, {"caf\u00e9", "\u00c9", "e", "caf\u00e9"},
		// The whole text, at the beginning, at the end, within, and several.
		{"abc", "abc", "d", "d"}, {"abc", "abc", "", ""}, {"abc", "a", "x", "xbc"}, {"abc", "ab", "x", "xc"}, {"abc", "c", "x", "abx"}, {"abc", "bc", "x", "ax"}, {"abc", "b", "x", "axc"}, {"abc", "b", "xyz", "axyzc"},
		{"abab", "ab", "x", "xx"}, {"abab", "ab", "ab", "abab"}, {"aab", "a", "x", "xxb"}, {"baa", "a", "x", "bxx"}, {"a-b-c", "-", "+", "a+b+c"}, {"a-b-c", "-", "", "abc"}, {"--", "-", "ab", "abab"}, {"xaxax", "a", "", "xxx"},
		// It overlaps itself: the first one is met, and what is looked for next begins behind it.
		{"aaa", "aa", "x", "xa"}, {"aaaa", "aa", "x", "xx"}, {"aaaaa", "aa", "x", "xxa"}, {"aaa", "aa", "", "a"}, {"aaa", "aa", "a", "aa"}, {"ababa", "aba", "x", "xba"}, {"abababa", "aba", "x", "xbx"}, {"aabaabaa", "aabaa", "x", "xbaa"},
		// It is in what is put, or is made anew by it and by what stands about it: that is not looked through.
		{"a", "a", "aa", "aa"}, {"aa", "a", "aa", "aaaa"}, {"ab", "a", "ba", "bab"}, {"ab", "a", "xax", "xaxb"}, {"aab", "ab", "b", "ab"}, {"abb", "ab", "a", "ab"}, {"aabb", "ab", "", "ab"}, {"abcc", "abc", "ab", "abc"}, {"aaab", "aab", "ab", "aab"}, {"aabb", "ab", "ab", "aabb"}, {"baba", "ab", "ba", "bbaa"},
		// An old that is empty is nowhere, whatever is put.
		{"abc", "", "x", "abc"}, {"abc", "", "", "abc"}, {"a", "", "xyz", "a"}, {"\u00e9\xff", "", "x", "\u00e9\xff"},
		// Bytes are met, also within runes, and what is no well-formed UTF-8.
		{"caf\u00e9", "\u00e9", "e", "cafe"}, {"\u00e9\u00ea", "\xc3", "x", "x\xa9x\xaa"}, {"\u00e9", "\xa9", "\xaa", "\u00ea"}, {"a\xffb\xff", "\xff", "\x00", "a\x00b\x00"}, {"\xff", "\xef\xbf\xbd", "x", "\xff"}, {"\xef\xbf\xbd", "\xff", "x", "\xef\xbf\xbd"}, {"a\x00b", "\x00", "", "ab"},
		{"  a  ", " ", "", "a"}, {"a\nb\n", "\n", "; ", "a; b; "},
		// Just so much as has room, also of a text that has none, and of an old that has none.
		{as(256), "b", "c", as(256)}, {as(256), "", "c", as(256)}, {as(255) + "b", "b", "c", as(255) + "c"}, {as(255) + "b", "b", "", as(255)}, {as(254) + "b", "b", "cc", as(254) + "cc"}, {"b" + as(254), "b", "aa", as(256)}, {as(128), "a", "bb", strings.Repeat("b", 256)}, {"b", "b", as(256), as(256)}, {"bb", "b", as(128), as(256)},
		{as(256) + "b", "b", "", as(256)}, {as(257), "a", "", ""}, {as(257), "aa", "a", as(129)}, {as(257), as(257), as(256), as(256)}, {as(257), as(257), "", ""}, {as(512), "aa", "b", strings.Repeat("b", 256)}, {as(513), "aa", "", "a"}, {as(1000), as(999), "b", "ba"}, {as(1 << 20), "aaaa", "", ""}, {as(1<<20 + 3), "aaaa", "", "aaa"}, {"b" + as(1<<20) + "b", as(1 << 20), "", "bb"},
		{"a", as(300), as(300), "a"}, {"a", "b", as(1000), "a"}, {"a", "", as(1000), "a"},
	} {
		if got, ok := Put(c.t, c.old, c.with); got != c.want || !ok {
			t.Errorf("Put(%.60q, %.60q, %.60q): %.60q, %v, not %.60q", c.t, c.old, c.with, got, ok, c.want)
		}
	}
}

func TestPutOfNoRoom(t *testing.T) {
	for _, c := range [][3]string{
		{as(257), "b", "c"}, {as(257), "", ""}, {as(257), "", "c"}, {as(257), "aaa", "aaa"}, {as(257), "a", "b"}, {as(257), as(258), ""}, {as(1 << 20), "b", ""},
		{as(256), "a", "bb"}, {as(255) + "b", "b", "cc"}, {"b" + as(255), "b", "cc"}, {as(129), "a", "bb"}, {"b", "b", as(257)}, {"bb", "b", as(129)}, {"bbc", "b", as(128)}, {as(256) + "b", "b", "c"}, {as(257) + "b", "b", ""}, {as(514), "aa", "b"}, {as(513), "aa", "b"},
		{strings.Repeat("ab", 200), "b", strings.Repeat("c", 2)}, {strings.Repeat("ab", 257), "b", ""},
		// What comes out would be too long to be made.
		{as(1 << 20), "a", as(1 << 20)}, {as(1 << 22), "a", as(1 << 26)},
	} {
		if got, ok := Put(c[0], c[1], c[2]); got != "" || ok {
			t.Errorf("Put(%.60q, %.60q, %.60q): %.60q, %v", c[0], c[1], c[2], got, ok)
		}
	}
}

// TestPutAboutTheRoom has texts, and what is put into them, of all lengths about the room.
func TestPutAboutTheRoom(t *testing.T) {
	for size := 245; size < 265; size++ {
		for n := range 7 {
			w := strings.Repeat("-", n) + as(size)
			for _, old := range []string{"-", "--", "---", "a", "aa", "-a", "", "b"} {
				for _, with := range []string{"", "-", "b", "bb", "bbb", as(40), as(128)} {
					holdPut(t, w, old, with)
				}
			}
		}
	}
}

// TestPutByItsWords has all texts of a's and b's: what is looked through up to seven bytes, the others up to three.
func TestPutByItsWords(t *testing.T) {
	texts := func(size int) []string {
		l := []string{""}
		for i := 0; len(l[i]) < size; i++ {
			l = append(l, l[i]+"a", l[i]+"b")
		}
		return l
	}
	for _, w := range texts(7) {
		for _, old := range texts(3) {
			for _, with := range texts(3) {
				holdPut(t, w, old, with)
			}
		}
	}
}

func TestPutOfTextsByItsWords(t *testing.T) {
	chance := rand.New(rand.NewSource(2))
	l := append(someTexts(2000, 8), someTexts(100, 250)...)
	for _, w := range l {
		from := chance.Intn(len(w) + 1)
		old := w[from:min(from+chance.Intn(4), len(w))]
		holdPut(t, w, old, l[chance.Intn(len(l))])
		holdPut(t, w, l[chance.Intn(len(l))], old)
		holdPut(t, strings.Repeat(w, 3), old, w)
	}
}

func TestJoin(t *testing.T) {
	for _, c := range []struct {
		l []string
		made
	}{
		{nil, made{"", true}}, {[]string{}, made{"", true}}, {[]string{""}, made{"", true}}, {[]string{"", "", ""}, made{"", true}}, {make([]string, 100000), made{"", true}},
		{[]string{"a"}, made{"a", true}}, {[]string{"a", "b"}, made{"ab", true}}, {[]string{"b", "a"}, made{"ba", true}}, {[]string{"ab", "", "cd", "e"}, made{"abcde", true}}, {[]string{"", "a", "", "", "b", ""}, made{"ab", true}}, {[]string{" a", " ", "b "}, made{" a b ", true}}, {[]string{"a", "a", "a"}, made{"aaa", true}},
		{[]string{"\xc3", "\xa9"}, made{"\u00e9", true}}, {[]string{"\u00e9", "\xff", "\x00"}, made{"\u00e9\xff\x00", true}}, {strings.Split("oculus", ""), made{"oculus", true}},
		{[]string{as(255)}, made{as(255), true}}, {[]string{as(256)}, made{as(256), true}}, {[]string{as(257)}, made{}}, {[]string{as(255), "b"}, made{as(255) + "b", true}}, {[]string{as(256), ""}, made{as(256), true}}, {[]string{"", as(256), ""}, made{as(256), true}}, {[]string{as(256), "b"}, made{}}, {[]string{"b", as(256)}, made{}}, {[]string{as(255), "bb"}, made{}}, {[]string{as(128), as(128)}, made{as(256), true}}, {[]string{as(128), as(129)}, made{}}, {[]string{as(100), as(100), as(56)}, made{as(256), true}}, {[]string{as(100), as(100), as(57)}, made{}},
		{[]string{as(257), "", "b"}, made{}}, {[]string{as(256), "b", ""}, made{}}, {[]string{as(256), "b", "c"}, made{}}, {[]string{as(1 << 20)}, made{}}, {[]string{"", as(1 << 20)}, made{}},
		{strings.Split(as(255), ""), made{as(255), true}}, {strings.Split(as(256), ""), made{as(256), true}}, {strings.Split(as(257), ""), made{}}, {strings.Split(as(1<<20), ""), made{}},
		// What comes out would be too long to be made.
		{slices.Repeat([]string{as(1 << 26)}, 1<<20), made{}},
	} {
		if got, ok := Join(c.l); got != c.want || ok != c.ok {
			t.Errorf("Join of %d texts: %.60q, %v, not %.60q, %v", len(c.l), got, ok, c.want, c.ok)
		}
	}
}

func TestJoinByItsWords(t *testing.T) {
	l := append(someTexts(300, 10), someTexts(50, 200)...)
	for i := range l {
		for n := range 6 {
			holdJoin(t, l[i:min(i+n, len(l))])
		}
	}
	for size := range 260 {
		for _, other := range []int{0, 1, 255, 256, 257, 256 - size, 257 - size} {
			holdJoin(t, []string{as(size), as(max(other, 0)), "", as(max(other, 0) / 2)})
			holdJoin(t, []string{as(size), as(max(other, 0))})
		}
	}
}

// TestJoinLeavesItsList holds that neither the list nor its spare room is changed.
func TestJoinLeavesItsList(t *testing.T) {
	l := []string{"a", "", "b", "c", as(256)}
	want := slices.Clone(l)
	for n := range len(l) + 1 {
		Join(l[:n])
	}
	if !slices.Equal(l, want) {
		t.Errorf("the list has become %.60q", l)
	}
}

// P14.3

func TestFixed(t *testing.T) {
	for _, c := range []struct {
		x      int64
		places int
		want   string
	}{
		{0, 0, "0"}, {0, 1, "0.0"}, {0, 2, "0.00"}, {0, 3, "0.000"}, {0, 4, "0.0000"},
		{12345, 0, "1"}, {12345, 1, "1.2"}, {12345, 2, "1.23"}, {12345, 3, "1.235"}, {12345, 4, "1.2345"}, {-12345, 0, "-1"}, {-12345, 1, "-1.2"}, {-12345, 2, "-1.23"}, {-12345, 3, "-1.235"}, {-12345, 4, "-1.2345"},
		{70000, 0, "7"}, {70000, 1, "7.0"}, {70000, 2, "7.00"}, {70000, 3, "7.000"}, {70000, 4, "7.0000"}, {-70000, 0, "-7"}, {-70000, 4, "-7.0000"}, {1000000, 0, "100"}, {1000000, 2, "100.00"}, {-1000000, 1, "-100.0"},
		{125000, 0, "13"}, {125000, 1, "12.5"}, {125000, 2, "12.50"}, {125000, 3, "12.500"}, {125000, 4, "12.5000"}, {-125000, 2, "-12.50"}, {10010, 3, "1.001"}, {10010, 4, "1.0010"}, {10010, 2, "1.00"}, {10100, 4, "1.0100"}, {10100, 1, "1.0"}, {11000, 1, "1.1"}, {1, 4, "0.0001"}, {-1, 4, "-0.0001"}, {10, 4, "0.0010"}, {100, 4, "0.0100"}, {1000, 4, "0.1000"},
		// What rounds to 0, from below too, is 0, which has no sign.
		{1, 0, "0"}, {1, 1, "0.0"}, {1, 3, "0.000"}, {-1, 0, "0"}, {-1, 1, "0.0"}, {-1, 2, "0.00"}, {-1, 3, "0.000"}, {-4, 3, "0.000"}, {-49, 2, "0.00"}, {-499, 1, "0.0"}, {-4999, 0, "0"}, {4999, 0, "0"},
		// Halves go away from 0, on both sides of it.
		{5, 3, "0.001"}, {-5, 3, "-0.001"}, {50, 2, "0.01"}, {-50, 2, "-0.01"}, {500, 1, "0.1"}, {-500, 1, "-0.1"}, {5000, 0, "1"}, {-5000, 0, "-1"}, {15000, 0, "2"}, {-15000, 0, "-2"}, {25000, 0, "3"}, {-25000, 0, "-3"}, {10500, 1, "1.1"}, {-10500, 1, "-1.1"}, {10499, 1, "1.0"}, {-10499, 1, "-1.0"}, {14999, 0, "1"}, {-14999, 0, "-1"}, {15, 3, "0.002"}, {25, 3, "0.003"}, {-15, 3, "-0.002"}, {-25, 3, "-0.003"},
		// One digit more.
		{9995, 3, "1.000"}, {9994, 3, "0.999"}, {9995, 4, "0.9995"}, {95500, 1, "9.6"}, {99500, 1, "10.0"}, {99500, 0, "10"}, {99500, 2, "9.95"}, {-99500, 1, "-10.0"}, {-9995, 3, "-1.000"}, {99999, 3, "10.000"}, {99999, 2, "10.00"}, {99999, 1, "10.0"}, {99999, 0, "10"}, {99999, 4, "9.9999"}, {9999999, 2, "1000.00"}, {-9999999, 3, "-1000.000"},
		// The greatest and the least decimal.
		{most, 4, "922337203685477.5807"}, {most, 2, "922337203685477.58"}, {least, 4, "-922337203685477.5807"}, {least, 2, "-922337203685477.58"}, {most - 3, 3, "922337203685477.580"}, {least + 3, 3, "-922337203685477.580"}, {most - 308, 1, "922337203685477.5"}, {least + 308, 1, "-922337203685477.5"}, {9223372036854774999, 0, "922337203685477"}, {-9223372036854774999, 0, "-922337203685477"}, {9223372036854770000, 0, "922337203685477"}, {9223372036854770000, 4, "922337203685477.0000"},
	} {
		if got, ok := Fixed(c.x, c.places); got != c.want || !ok {
			t.Errorf("Fixed(%d, %d): %q, %v, not %q", c.x, c.places, got, ok, c.want)
		}
	}
}

func TestFixedOfNone(t *testing.T) {
	for _, places := range []int{-1, -2, -14, -15, 5, 6, 14, 256, 257, 1 << 32, -1 << 32, 1<<32 + 2, math.MaxInt, math.MaxInt - 1, math.MinInt, math.MinInt + 1} {
		for _, x := range []int64{0, 1, -1, 12345, 70000, -70000, most, least, none} {
			if got, ok := Fixed(x, places); got != "" || ok {
				t.Errorf("Fixed(%d, %d): %q, %v", x, places, got, ok)
			}
		}
	}
	for _, c := range []struct {
		x      int64
		places int
	}{
		// These may not be, or would be rounded to what may not be.
		{none, 0}, {none, 1}, {none, 2}, {none, 3}, {none, 4},
		{most, 0}, {most, 1}, {most, 3}, {least, 0}, {least, 1}, {least, 3},
		{most - 2, 3}, {least + 2, 3}, {most - 307, 1}, {least + 307, 1}, {9223372036854775000, 0}, {-9223372036854775000, 0},
	} {
		if got, ok := Fixed(c.x, c.places); got != "" || ok {
			t.Errorf("Fixed(%d, %d): %q, %v", c.x, c.places, got, ok)
		}
	}
}

func TestFixedByItsWords(t *testing.T) {
	places := []int{-1, 0, 1, 2, 3, 4, 5}
	all := func(x int64) {
		for _, n := range places {
			holdFixed(t, x, n)
		}
	}
	for x := int64(-21000); x <= 21000; x++ {
		all(x)
	}
	for x := int64(0); x <= 12000; x++ {
		all(most - x)
		all(least + x)
	}
	all(none)
	for power := int64(1); power <= most/10; power *= 10 {
		for _, x := range []int64{power - 1, power, power + 1, power*5 - 1, power * 5, power*9 + power/2, power*9 + power/2 - 1} {
			all(x)
			all(-x)
		}
	}
	chance := rand.New(rand.NewSource(3))
	for range 20000 {
		all(int64(chance.Uint64()) >> chance.Intn(64))
	}
}

// P14.4

func TestTwiceIsAsOnce(t *testing.T) {
	for name, call := range map[string]func(string) string{"Upper": Upper, "Lower": Lower, "Proper": Proper, "Trim": Trim} {
		for _, w := range append(someTexts(3000, 20), "", " ", "o'NEIL  and   SONS ", "  \t  \t  ", "a\xffB\xffc", as(300)) {
			once := call(w)
			if twice := call(once); twice != once {
				t.Errorf("%s(%q), done twice: %q, and once: %q", name, w, twice, once)
			}
		}
	}
}

func TestPutOfWhatIsNotThere(t *testing.T) {
	l := append(someTexts(1000, 20), "", "a", "aaa", as(255), as(256))
	for i, w := range l {
		for _, old := range []string{"", w + "b", "b" + w, "aaaab", "\xfe", as(257), l[len(l)-1-i]} {
			if old != "" && strings.Contains(w, old) {
				continue
			}
			for _, with := range []string{"", "b", old, w, as(300)} {
				if got, ok := Put(w, old, with); got != w || !ok {
					t.Errorf("Put(%.60q, %.60q, %.60q): %.60q, %v", w, old, with, got, ok)
				}
			}
		}
	}
}

// FuzzAll holds all calls against the document's words.
func FuzzAll(f *testing.F) {
	f.Add("o'NEIL  and   SONS ", "AND", "or", 3, int64(-12345))
	f.Add("caf\u00e9s\xff", "\xa9", "", math.MaxInt, most)
	f.Add("", "", "a", 0, none)
	f.Add(as(257), "aa", "a", -1, least)
	f.Fuzz(func(t *testing.T, w, old, with string, n int, x int64) {
		for _, part := range []string{w, old, with, w + old, with + " " + w} {
			hold(t, part)
			holdRept(t, part, n)
			holdRept(t, part, n&7)
		}
		holdPut(t, w, old, with)
		holdPut(t, w+old+with+old+w, old, with)
		holdPut(t, w+old+old, old, with)
		holdJoin(t, []string{w, old, with, old})
		holdFixed(t, x, n)
		holdFixed(t, x, n&7)
	})
}
