package runes

import (
	"math"
	"math/rand"
	"slices"
	"strings"
	"testing"
)

// untold is the rune as which Go's range tells a byte that begins no well-formed piece.
const untold = 65533

// form is the bytes of well-formed pieces: of each byte the least and the greatest one.
type form [][2]byte

// forms is all forms of well-formed pieces, as the standard of UTF-8 lists them.
var forms = []form{
	{{0x00, 0x7f}},
	{{0xc2, 0xdf}, {0x80, 0xbf}},
	{{0xe0, 0xe0}, {0xa0, 0xbf}, {0x80, 0xbf}},
	{{0xe1, 0xec}, {0x80, 0xbf}, {0x80, 0xbf}},
	{{0xed, 0xed}, {0x80, 0x9f}, {0x80, 0xbf}},
	{{0xee, 0xef}, {0x80, 0xbf}, {0x80, 0xbf}},
	{{0xf0, 0xf0}, {0x90, 0xbf}, {0x80, 0xbf}, {0x80, 0xbf}},
	{{0xf1, 0xf3}, {0x80, 0xbf}, {0x80, 0xbf}, {0x80, 0xbf}},
	{{0xf4, 0xf4}, {0x80, 0x8f}, {0x80, 0xbf}, {0x80, 0xbf}},
}

// begins tells whether a text begins with a piece of a form.
func (f form) begins(t string) bool {
	if len(t) < len(f) {
		return false
	}
	for i, b := range f {
		if t[i] < b[0] || t[i] > b[1] {
			return false
		}
	}
	return true
}

// wellFormed is how many bytes the well-formed piece has with which a text begins: 0, if it begins with none.
func wellFormed(t string) int {
	for _, f := range forms {
		if f.begins(t) {
			return len(f)
		}
	}
	return 0
}

// pieces is the document's word on a text's runes.
func pieces(t string) []string {
	l := []string{}
	for t != "" {
		size := max(wellFormed(t), 1)
		l = append(l, t[:size])
		t = t[size:]
	}
	return l
}

// isWellFormed tells whether each rune of a text is a well-formed piece.
func isWellFormed(t string) bool {
	return !slices.ContainsFunc(pieces(t), func(p string) bool { return wellFormed(p) == 0 })
}

// told is the rune as which a piece is told.
func told(piece string) rune {
	if wellFormed(piece) == 0 {
		return untold
	}
	// The first byte's bits that tell how long the piece is are taken away; each other byte has six bits.
	r := rune(piece[0]) & []rune{0x7f, 0x1f, 0x0f, 0x07}[len(piece)-1]
	for _, b := range []byte(piece[1:]) {
		r = r<<6 | rune(b)&0x3f
	}
	return r
}

// firstOf is a list's first elements.
func firstOf(l []string, n int) []string { return l[:max(0, min(n, len(l)))] }

// leftByWords, rightByWords and midByWords are the document's words on Left, Right and Mid, of a text's pieces.

func leftByWords(l []string, n int) string { return strings.Join(firstOf(l, n), "") }

func rightByWords(l []string, n int) string {
	back := slices.Clone(l)
	slices.Reverse(back)
	back = slices.Clone(firstOf(back, n))
	slices.Reverse(back)
	return strings.Join(back, "")
}

func midByWords(l []string, from, n int) string {
	if from < 0 || from > len(l) {
		return ""
	}
	return leftByWords(l[from:], n)
}

// findByWords is the document's word on Find.
func findByWords(needle, t string) (int, bool) {
	l := pieces(t)
	for place := 0; place <= len(l); place++ {
		if rest := strings.Join(l[place:], ""); len(rest) >= len(needle) && rest[:len(needle)] == needle {
			return place, true
		}
	}
	return 0, false
}

// reverseByWords is the document's word on Reverse.
func reverseByWords(l []string) string {
	back := ""
	for _, p := range l {
		back = p + back
	}
	return back
}

// singleByWords is the document's word on Single.
func singleByWords(n int) (string, bool) {
	cont := func(bits int) byte { return byte(0x80 | n>>bits&0x3f) }
	switch {
	case n < 1 || n > 1114111 || n >= 55296 && n <= 57343:
		return "", false
	case n < 1<<7:
		return string([]byte{byte(n)}), true
	case n < 1<<11:
		return string([]byte{byte(0xc0 | n>>6), cont(0)}), true
	case n < 1<<16:
		return string([]byte{byte(0xe0 | n>>12), cont(6), cont(0)}), true
	}
	return string([]byte{byte(0xf0 | n>>18), cont(12), cont(6), cont(0)}), true
}

// cut is a text as its runes, from its beginning on, written out, and the first one as it is told.
type cut struct {
	l     []string
	first rune
}

// text is the text that was cut.
func (c cut) text() string { return strings.Join(c.l, "") }

// known is texts, cut by hand.
func known() []cut {
	return []cut{
		{nil, 0},
		// Runes of one, two, three and four bytes, and all of them mixed.
		{[]string{"a"}, 97},
		{[]string{"a", "b", "c", "b", "a"}, 97},
		{[]string{"\x00", "a", "\x7f"}, 0},
		{[]string{"\xc3\xa9"}, 0xe9},
		{[]string{"\xc3\xa9", "\xc3\xaa", "\xc3\xa9"}, 0xe9},
		{[]string{"\xe6\x97\xa5"}, 0x65e5},
		{[]string{"\xe6\x97\xa5", "\xe6\x9c\xac"}, 0x65e5},
		{[]string{"\xf0\x9f\x98\x80"}, 0x1f600},
		{[]string{"\xf0\x9f\x98\x80", "\xf0\x9f\x98\x81"}, 0x1f600},
		{[]string{"a", "\xc3\xa9", "\xe6\x97\xa5", "\xf0\x9f\x98\x80", "b"}, 97},
		{[]string{"\xf0\x9f\x98\x80", "\xe6\x97\xa5", "\xc3\xa9", "a"}, 0x1f600},
		{[]string{"e", "\xcc\x81"}, 101}, // a letter and its mark are two runes
		// The least and the greatest rune of each length, and those beside the surrogates.
		{[]string{"\x00"}, 0},
		{[]string{"\x7f"}, 127},
		{[]string{"\xc2\x80"}, 128},
		{[]string{"\xdf\xbf"}, 2047},
		{[]string{"\xe0\xa0\x80"}, 2048},
		{[]string{"\xed\x9f\xbf"}, 55295},
		{[]string{"\xee\x80\x80"}, 57344},
		{[]string{"\xef\xbf\xbf"}, 65535},
		{[]string{"\xf0\x90\x80\x80"}, 65536},
		{[]string{"\xf4\x8f\xbf\xbf"}, 1114111},
		{[]string{"\xef\xbb\xbf", "a"}, 0xfeff},
		// The rune 65533 itself, alone and beside bytes that are told as it.
		{[]string{"\xef\xbf\xbd"}, untold},
		{[]string{"\xef\xbf\xbd", "\xff", "\xef\xbf\xbd", "\xef", "\xbf"}, untold},
		{[]string{"\xff", "\xef\xbf\xbd", "\x80", "\xef\xbf\xbd"}, untold},
		{[]string{"\xbf", "\xbd", "\xef\xbf\xbd"}, untold},
		// Bytes that begin no piece.
		{[]string{"\x80"}, untold},
		{[]string{"\xbf"}, untold},
		{[]string{"\xc0"}, untold},
		{[]string{"\xc1"}, untold},
		{[]string{"\xf5"}, untold},
		{[]string{"\xff"}, untold},
		{[]string{"\x80", "\xbf", "\x80"}, untold},
		{[]string{"\xa9", "\xc3\xa9", "\xa9"}, untold},
		{[]string{"a", "\xff", "b"}, 97},
		{[]string{"\xfe", "\xff", "\xc3\xa9"}, untold},
		// Pieces that are cut off, at the end and ahead of another rune.
		{[]string{"\xc3"}, untold},
		{[]string{"\xc3", "a"}, untold},
		{[]string{"\xc3", "\xc3\xa9"}, untold},
		{[]string{"a", "\xe6"}, 97},
		{[]string{"\xe6", "a"}, untold},
		{[]string{"\xe6", "\x97"}, untold},
		{[]string{"\xe6", "\x97", "a"}, untold},
		{[]string{"\xe6", "\x97", "\xc3\xa9", "\xe6\x97\xa5"}, untold},
		{[]string{"\xf0"}, untold},
		{[]string{"\xf0", "\xe6\x97\xa5"}, untold},
		{[]string{"\xf0", "\x9f"}, untold},
		{[]string{"\xf0", "\x9f", "a"}, untold},
		{[]string{"\xf0", "\x9f", "\x98"}, untold},
		{[]string{"\xf0", "\x9f", "\x98", "a"}, untold},
		{[]string{"\xf0", "\x9f", "\x98", "\xf0\x9f\x98\x80"}, untold},
		{[]string{"\xc3\xa9", "\xf0", "\x9f", "\x98"}, 0xe9},
		// Forms that are too long.
		{[]string{"\xc0", "\x80"}, untold},
		{[]string{"\xc1", "\xbf"}, untold},
		{[]string{"\xe0", "\x80", "\x80"}, untold},
		{[]string{"\xe0", "\x9f", "\xbf"}, untold},
		{[]string{"\xf0", "\x80", "\x80", "\x80"}, untold},
		{[]string{"\xf0", "\x8f", "\xbf", "\xbf"}, untold},
		{[]string{"\xf8", "\x88", "\x80", "\x80", "\x80"}, untold},
		{[]string{"\xfc", "\x84", "\x80", "\x80", "\x80", "\x80"}, untold},
		// Surrogates, alone and as a pair.
		{[]string{"\xed", "\xa0", "\x80"}, untold},
		{[]string{"\xed", "\xbf", "\xbf"}, untold},
		{[]string{"\xed", "\xa0", "\xbd", "\xed", "\xb8", "\x80"}, untold},
		// Above the greatest rune.
		{[]string{"\xf4", "\x90", "\x80", "\x80"}, untold},
		{[]string{"\xf5", "\x80", "\x80", "\x80"}, untold},
		{[]string{"\xf7", "\xbf", "\xbf", "\xbf"}, untold},
	}
}

// manyTexts is the known ones, each beside some others, each byte alone and within a text, and long ones.
func manyTexts() []string {
	l := []string{}
	for _, c := range known() {
		l = append(l, c.text())
		for _, other := range []string{"a", "\xa9", "\xc3\xa9", "\xe6\x97\xa5", "\xf0\x9f\x98\x80", "\xef\xbf\xbd", "\xff"} {
			l = append(l, c.text()+other, other+c.text(), other+c.text()+other)
		}
	}
	for b := range 256 {
		one := string([]byte{byte(b)})
		l = append(l, one, one+one, "a"+one+"b", "\xc3\xa9"+one+"\xe6\x97\xa5", one+"\x80\x80\x80")
	}
	for _, p := range []string{"a", "\xc3\xa9", "\xe6\x97\xa5", "\xf0\x9f\x98\x80", "\x80", "\xf0\x9f\x98", "a\xc3\xa9\xff"} {
		l = append(l, strings.Repeat(p, 60), strings.Repeat(p, 256/len(p)), "b"+strings.Repeat(p, 100))
	}
	return l
}

// edgeBytes is the bytes at the ends of the forms, and beside these.
func edgeBytes() []byte {
	return []byte("\x00a\x7f\x80\x8f\x90\x9f\xa0\xbf\xc0\xc1\xc2\xdf\xe0\xe1\xec\xed\xee\xef\xf0\xf1\xf3\xf4\xf5\xff")
}

// manyNumbers is numbers about 0, about how many runes there are, and about the ends of their types.
func manyNumbers(count int) []int {
	l := []int{math.MinInt, math.MinInt + 1, -1 << 32, -1<<32 + 1, -1 << 31, -count - 1, -count, -2, 1 << 31, 1 << 32, 1<<32 + 1, math.MaxInt - count, math.MaxInt - 1, math.MaxInt}
	for n := -1; n <= min(count+2, 9); n++ {
		l = append(l, n)
	}
	return append(l, count/2, count-2, count-1, count, count+1)
}

// hold holds the calls that take a text alone, with its pieces, against the document's words.
func hold(t *testing.T, w string, l []string) {
	t.Helper()
	if got := Count(w); got != len(l) {
		t.Errorf("Count(%q): %d, not %d", w, got, len(l))
	}
	if got, want := Reverse(w), reverseByWords(l); got != want {
		t.Errorf("Reverse(%q): %q, not %q", w, got, want)
	}
	r, ok := First(w)
	if w == "" {
		if r != 0 || ok {
			t.Errorf("First of the empty text: %d, %v", r, ok)
		}
		return
	}
	if want := told(l[0]); r != want || !ok {
		t.Errorf("First(%q): %d, %v, not %d", w, r, ok, want)
	}
}

// holdCuts holds Left, Right and Mid of a text, with its pieces, against the document's words.
func holdCuts(t *testing.T, w string, l []string, numbers []int) {
	t.Helper()
	for _, n := range numbers {
		if got, want := Left(w, n), leftByWords(l, n); got != want {
			t.Errorf("Left(%q, %d): %q, not %q", w, n, got, want)
		}
		if got, want := Right(w, n), rightByWords(l, n); got != want {
			t.Errorf("Right(%q, %d): %q, not %q", w, n, got, want)
		}
		for _, from := range numbers {
			if got, want := Mid(w, from, n), midByWords(l, from, n); got != want {
				t.Errorf("Mid(%q, %d, %d): %q, not %q", w, from, n, got, want)
			}
		}
	}
}

// holdFind holds Find against the document's words.
func holdFind(t *testing.T, needle, w string) {
	t.Helper()
	got, ok := Find(needle, w)
	if want, is := findByWords(needle, w); got != want || ok != is {
		t.Errorf("Find(%q, %q): %d, %v, not %d, %v", needle, w, got, ok, want, is)
	}
}

// holdPlaces holds against one another what is left and right of each place.
func holdPlaces(t *testing.T, w string) {
	t.Helper()
	count := Count(w)
	for place := range count + 1 {
		if got := Left(w, place) + Right(w, count-place); got != w {
			t.Errorf("%q, left and right of %d: %q", w, place, got)
		}
		if got := Left(w, place) + Mid(w, place, math.MaxInt); got != w {
			t.Errorf("%q, left of %d and from there on: %q", w, place, got)
		}
		if got := Mid(w, 0, place) + Mid(w, place, count-place); got != w {
			t.Errorf("%q, up to %d and from there on: %q", w, place, got)
		}
	}
}

// The tests' own words

// TestWordsAreAsKnown holds the words that the tests tell against texts that were cut by hand.
func TestWordsAreAsKnown(t *testing.T) {
	for _, c := range known() {
		l := pieces(c.text())
		if !slices.Equal(l, c.l) {
			t.Errorf("pieces(%q): %q", c.text(), l)
		}
		if len(l) > 0 && told(l[0]) != c.first {
			t.Errorf("told(%q): %d", l[0], told(l[0]))
		}
	}
}

// TestWordsAreGosRange holds the words that the tests tell against Go's range itself.
func TestWordsAreGosRange(t *testing.T) {
	for _, w := range manyTexts() {
		l := pieces(w)
		at, place := 0, 0
		for i, r := range w {
			if place == len(l) || i != at || r != told(l[place]) {
				t.Fatalf("%q: the rune %d begins at %d", w, r, i)
			}
			at += len(l[place])
			place++
		}
		if at != len(w) || place != len(l) {
			t.Errorf("%q: %d runes, and %d pieces", w, place, len(l))
		}
	}
}

// P13.1

func TestCount(t *testing.T) {
	for _, c := range known() {
		if got := Count(c.text()); got != len(c.l) {
			t.Errorf("Count(%q): %d, not %d", c.text(), got, len(c.l))
		}
	}
}

func TestLeftAndRight(t *testing.T) {
	w := "a\xc3\xa9\xff\xe6\x97\xa5\xe6\x97\xf0\x9f\x98\x80"
	for _, c := range []struct {
		n           int
		left, right string
	}{
		{math.MinInt, "", ""}, {-1 << 32, "", ""}, {-7, "", ""}, {-1, "", ""}, {0, "", ""},
		{1, "a", "\xf0\x9f\x98\x80"},
		{2, "a\xc3\xa9", "\x97\xf0\x9f\x98\x80"},
		{3, "a\xc3\xa9\xff", "\xe6\x97\xf0\x9f\x98\x80"},
		{4, "a\xc3\xa9\xff\xe6\x97\xa5", "\xe6\x97\xa5\xe6\x97\xf0\x9f\x98\x80"},
		{5, "a\xc3\xa9\xff\xe6\x97\xa5\xe6", "\xff\xe6\x97\xa5\xe6\x97\xf0\x9f\x98\x80"},
		{6, "a\xc3\xa9\xff\xe6\x97\xa5\xe6\x97", "\xc3\xa9\xff\xe6\x97\xa5\xe6\x97\xf0\x9f\x98\x80"},
		{7, w, w}, {8, w, w}, {13, w, w}, {1 << 32, w, w}, {math.MaxInt, w, w},
	} {
		if got := Left(w, c.n); got != c.left {
			t.Errorf("Left(%d): %q, not %q", c.n, got, c.left)
		}
		if got := Right(w, c.n); got != c.right {
			t.Errorf("Right(%d): %q, not %q", c.n, got, c.right)
		}
	}
	for _, n := range []int{math.MinInt, -1, 0, 1, math.MaxInt} {
		if Left("", n) != "" || Right("", n) != "" {
			t.Errorf("Left, Right of the empty text and %d: %q, %q", n, Left("", n), Right("", n))
		}
	}
}

func TestMid(t *testing.T) {
	w := "a\xc3\xa9\xff\xe6\x97\xa5\xf0\x9f\x98\x80"
	for _, c := range []struct {
		from, n int
		want    string
	}{
		{0, 0, ""}, {0, 1, "a"}, {0, 2, "a\xc3\xa9"}, {0, 5, w}, {0, 6, w}, {0, math.MaxInt, w}, {0, -1, ""}, {0, math.MinInt, ""},
		{1, 0, ""}, {1, 1, "\xc3\xa9"}, {1, 2, "\xc3\xa9\xff"}, {2, 1, "\xff"}, {2, 2, "\xff\xe6\x97\xa5"}, {2, -1, ""},
		{1, 4, w[1:]}, {1, 5, w[1:]}, {1, math.MaxInt, w[1:]}, {3, math.MaxInt - 2, w[4:]},
		{4, 0, ""}, {4, 1, "\xf0\x9f\x98\x80"}, {4, 2, "\xf0\x9f\x98\x80"}, {4, math.MaxInt, "\xf0\x9f\x98\x80"}, {4, -1, ""}, {4, math.MinInt, ""},
		{5, 0, ""}, {5, 1, ""}, {5, math.MaxInt, ""}, {5, math.MinInt, ""}, {6, 1, ""}, {10, 1, ""}, {11, 1, ""},
		{-1, 0, ""}, {-1, 1, ""}, {-1, 2, ""}, {-1, 6, ""}, {-1, math.MaxInt, ""}, {-1, math.MinInt, ""}, {-1, -1, ""},
		{math.MaxInt, 0, ""}, {math.MaxInt, 1, ""}, {math.MaxInt, math.MaxInt, ""}, {math.MaxInt, math.MinInt, ""},
		{math.MinInt, 0, ""}, {math.MinInt, 1, ""}, {math.MinInt, math.MaxInt, ""}, {math.MinInt, math.MinInt, ""}, {math.MinInt + 1, math.MaxInt, ""},
		{1 << 32, 1, ""}, {1<<32 + 1, 2, ""}, {1, 1 << 32, w[1:]}, {-1 << 32, 1, ""},
	} {
		if got := Mid(w, c.from, c.n); got != c.want {
			t.Errorf("Mid(%d, %d): %q, not %q", c.from, c.n, got, c.want)
		}
	}
	for _, from := range []int{math.MinInt, -1, 0, 1, math.MaxInt} {
		for _, n := range []int{math.MinInt, -1, 0, 1, math.MaxInt} {
			if got := Mid("", from, n); got != "" {
				t.Errorf("Mid of the empty text, %d and %d: %q", from, n, got)
			}
		}
	}
}

func TestCutsByTheirWords(t *testing.T) {
	for _, w := range manyTexts() {
		l := pieces(w)
		holdCuts(t, w, l, manyNumbers(len(l)))
	}
}

// P13.2

func TestFind(t *testing.T) {
	for _, c := range []struct {
		needle, t string
		place     int
		ok        bool
	}{
		// The empty needle.
		{"", "", 0, true}, {"", "a", 0, true}, {"", "\xc3\xa9", 0, true}, {"", "\xff", 0, true}, {"", "abc", 0, true},
		// The whole text, at its beginning, at its end, longer than it, twice there.
		{"a", "", 0, false}, {"\xff", "", 0, false}, {"\x00", "", 0, false},
		{"abc", "abc", 0, true}, {"ab", "abc", 0, true}, {"bc", "abc", 1, true}, {"c", "abc", 2, true}, {"abcd", "abc", 0, false}, {"bcd", "abc", 0, false}, {"d", "abc", 0, false}, {"A", "abc", 0, false}, {"\x00", "abc", 0, false},
		{"a", "bab a", 1, true}, {"aa", "baaa", 1, true}, {"ab", "aab ab", 1, true}, {"abac", "ababac", 2, true}, {"\xc3\xa9", "a\xc3\xa9\xc3\xa9", 1, true}, {"\xff", "a\xff\xff", 1, true},
		{" ", "a b", 1, true}, {"\x00", "a\x00", 1, true}, {"*", "a*", 1, true}, {"?", "ab", 0, false},
		// Places are counted in runes, not in bytes.
		{"b", "\xc3\xa9b", 1, true}, {"b", "\xe6\x97\xa5b", 1, true}, {"b", "\xf0\x9f\x98\x80b", 1, true}, {"b", "\xff\xfeb", 2, true}, {"b", "\xe6\x97b", 2, true}, {"b", "\xf0\x9f\x98b", 3, true},
		{"\xf0\x9f\x98\x80", "a\xc3\xa9\xe6\x97\xa5\xf0\x9f\x98\x80", 3, true}, {"\xe6\x97\xa5\xf0\x9f\x98\x80", "a\xc3\xa9\xe6\x97\xa5\xf0\x9f\x98\x80", 2, true},
		{"\xc3\xa9", "\xc3\xc3\xa9", 1, true}, {"\xc3\xa9", "e\xcc\x81", 0, false},
		// A needle that begins within a rune.
		{"\xa9", "\xc3\xa9", 0, false}, {"\xa9b", "\xc3\xa9b", 0, false}, {"\x97\xa5", "\xe6\x97\xa5", 0, false}, {"\xa5", "\xe6\x97\xa5", 0, false}, {"\x80", "\xf0\x9f\x98\x80", 0, false}, {"\xbf\xbd", "\xef\xbf\xbd", 0, false},
		{"\xa9", "\xc3\xa9\xa9", 1, true}, {"\xa9b", "\xc3\xa9b\xa9b", 2, true}, {"\x97\xa5", "\xe6\x97\xa5\x97\xa5", 1, true}, {"\x80\x80", "\xc2\x80\x80\x80", 1, true},
		// One that ends within a rune.
		{"\xc3", "\xc3\xa9", 0, true}, {"a\xc3", "a\xc3\xa9", 0, true}, {"\xe6\x97", "a\xe6\x97\xa5", 1, true}, {"\xe6", "a\xe6\x97\xa5", 1, true}, {"\xf0\x9f\x98", "\xc3\xa9\xf0\x9f\x98\x80", 1, true}, {"\xe6\x98", "\xe6\x97\xa5", 0, false},
		// A byte that is not well-formed, and the rune as which it is told.
		{"\xff", "\xff", 0, true}, {"\xff", "a\xffb", 1, true}, {"\xff", "\xfe", 0, false}, {"\xff", "\xef\xbf\xbd", 0, false}, {"\xef\xbf\xbd", "\xff", 0, false}, {"\xef\xbf\xbd", "\xff\xef\xbf\xbd", 1, true}, {"\xff", "\xef\xbf\xbd\xff", 1, true}, {"\xc3", "\xc3a", 0, true}, {"\xe6\x97", "a\xe6\x97", 1, true}, {"\x97", "\xe6\x97", 1, true},
	} {
		if place, ok := Find(c.needle, c.t); place != c.place || ok != c.ok {
			t.Errorf("Find(%q, %q): %d, %v, not %d, %v", c.needle, c.t, place, ok, c.place, c.ok)
		}
	}
}

// TestFindOfEachPart looks in each known text for each part of it, byte by byte, and for what is not quite a part.
func TestFindOfEachPart(t *testing.T) {
	for _, c := range known() {
		for _, w := range []string{c.text(), c.text() + c.text(), "a\xc3\xa9" + c.text() + "\xa9\xff"} {
			for from := range len(w) + 1 {
				for to := from; to <= len(w); to++ {
					for _, needle := range []string{w[from:to], w[from:to] + "\x80", "\xc3" + w[from:to], w[from:to] + "a"} {
						holdFind(t, needle, w)
					}
				}
			}
		}
	}
}

func TestFindOfEachOther(t *testing.T) {
	l := known()
	for _, a := range l {
		for _, b := range l {
			holdFind(t, a.text(), b.text())
			holdFind(t, a.text(), b.text()+a.text())
			holdFind(t, a.text(), "\xc3\xa9"+b.text()+"\xf0\x9f"+a.text()+a.text())
		}
	}
}

// P13.3

func TestReverse(t *testing.T) {
	for _, c := range known() {
		if got, want := Reverse(c.text()), reverseByWords(c.l); got != want {
			t.Errorf("Reverse(%q): %q, not %q", c.text(), got, want)
		}
	}
	for _, c := range []struct{ t, want string }{
		{"", ""}, {"a", "a"}, {"ab", "ba"}, {"abc", "cba"}, {"\xc3\xa9", "\xc3\xa9"}, {"a\xc3\xa9", "\xc3\xa9a"}, {"\xe6\x97\xa5\xe6\x9c\xac", "\xe6\x9c\xac\xe6\x97\xa5"}, {"a\xc3\xa9\xe6\x97\xa5\xf0\x9f\x98\x80", "\xf0\x9f\x98\x80\xe6\x97\xa5\xc3\xa9a"},
		{"\xff\xfea", "a\xfe\xff"}, {"\xff\xef\xbf\xbd", "\xef\xbf\xbd\xff"}, {"\xef\xbf\xbd\xff", "\xff\xef\xbf\xbd"}, {"\xf0\x9f\x98", "\x98\x9f\xf0"}, {"\xa9\xc3", "\xc3\xa9"}, {"\xc3\xc3\xa9", "\xc3\xa9\xc3"}, {"e\xcc\x81", "\xcc\x81e"},
	} {
		if got := Reverse(c.t); got != c.want {
			t.Errorf("Reverse(%q): %q, not %q", c.t, got, c.want)
		}
	}
}

func TestFirst(t *testing.T) {
	for _, c := range known() {
		r, ok := First(c.text())
		if r != c.first || ok != (len(c.l) > 0) {
			t.Errorf("First(%q): %d, %v, not %d", c.text(), r, ok, c.first)
		}
	}
}

func TestSingle(t *testing.T) {
	for _, c := range []struct {
		n    int
		want string
	}{
		{1, "\x01"}, {10, "\n"}, {65, "A"}, {97, "a"}, {126, "~"}, {127, "\x7f"}, {128, "\xc2\x80"}, {233, "\xc3\xa9"}, {255, "\xc3\xbf"}, {256, "\xc4\x80"}, {2047, "\xdf\xbf"}, {2048, "\xe0\xa0\x80"}, {26085, "\xe6\x97\xa5"},
		{55295, "\xed\x9f\xbf"}, {57344, "\xee\x80\x80"}, {65279, "\xef\xbb\xbf"}, {65533, "\xef\xbf\xbd"}, {65534, "\xef\xbf\xbe"}, {65535, "\xef\xbf\xbf"}, {65536, "\xf0\x90\x80\x80"}, {128512, "\xf0\x9f\x98\x80"}, {1114110, "\xf4\x8f\xbf\xbe"}, {1114111, "\xf4\x8f\xbf\xbf"},
	} {
		if got, ok := Single(c.n); got != c.want || !ok {
			t.Errorf("Single(%d): %q, %v, not %q", c.n, got, ok, c.want)
		}
	}
}

func TestSingleOfNone(t *testing.T) {
	l := []int{0, -1, -2, -65, -65533, -1114111, 55296, 55297, 56319, 56320, 57342, 57343, 1114112, 1114113, 1 << 21, math.MaxInt32, math.MinInt32, math.MaxInt, math.MinInt}
	// What would be a rune, if it were cut off to fewer bits.
	for _, n := range []int{0, 1, 65, 127, 128, 2047, 2048, 55295, 57344, 65533, 65535, 65536, 1114111} {
		for _, bit := range []int{21, 30, 31, 32, 33, 40, 62} {
			l = append(l, n+1<<bit, n-1<<bit)
		}
		l = append(l, n+math.MinInt)
	}
	for _, n := range l {
		if got, ok := Single(n); got != "" || ok {
			t.Errorf("Single(%d): %q, %v", n, got, ok)
		}
	}
}

// TestSingleOfAll has each number from below the least rune to above the greatest one: its text is one rune, and told as it.
func TestSingleOfAll(t *testing.T) {
	for n := -1000; n <= 1115000; n++ {
		got, ok := Single(n)
		want, is := singleByWords(n)
		if got != want || ok != is {
			t.Fatalf("Single(%d): %q, %v, not %q, %v", n, got, ok, want, is)
		}
		if !is {
			continue
		}
		if r, ok := First(got); int(r) != n || !ok || Count(got) != 1 || Reverse(got) != got {
			t.Fatalf("The text of %d: First %d, %v, Count %d, Reverse %q", n, r, ok, Count(got), Reverse(got))
		}
	}
}

func TestAllByTheirWords(t *testing.T) {
	for _, w := range manyTexts() {
		hold(t, w, pieces(w))
	}
}

// TestBytesByTheirWords has each two bytes, and each four that stand at the ends of the forms.
func TestBytesByTheirWords(t *testing.T) {
	for a := range 256 {
		for b := range 256 {
			w := string([]byte{byte(a), byte(b)})
			hold(t, w, pieces(w))
		}
	}
	edge := edgeBytes()
	for _, a := range edge {
		for _, b := range edge {
			for _, c := range edge {
				for _, d := range edge {
					w := string([]byte{a, b, c, d})
					hold(t, w, pieces(w))
				}
			}
		}
	}
}

// TestChanceByTheirWords has texts of any pieces and bytes, the same in each run.
func TestChanceByTheirWords(t *testing.T) {
	chance := rand.New(rand.NewSource(13))
	parts := known()
	for range 3000 {
		w := ""
		for range chance.Intn(12) {
			part := parts[chance.Intn(len(parts))].text()
			w += part[:chance.Intn(len(part)+1)]
		}
		l := pieces(w)
		hold(t, w, l)
		holdCuts(t, w, l, []int{-1, 0, 1, chance.Intn(len(l) + 1), len(l), math.MaxInt})
		holdPlaces(t, w)
		from := chance.Intn(len(w) + 1)
		holdFind(t, w[from:min(from+chance.Intn(5), len(w))], w)
	}
}

// P13.4

func TestLeftAndRightOfAPlace(t *testing.T) {
	for _, w := range manyTexts() {
		holdPlaces(t, w)
	}
}

func TestReversedTwice(t *testing.T) {
	for _, w := range manyTexts() {
		if got := Reverse(Reverse(w)); isWellFormed(w) && got != w {
			t.Errorf("%q, reversed twice: %q", w, got)
		}
		if got := Reverse(w); len(got) != len(w) {
			t.Errorf("%q, reversed: %q", w, got)
		}
	}
	// Of others it need not be: their bytes may stand together as another rune when they are reversed.
	if got := Reverse(Reverse("\xa9\xc3")); got != "\xc3\xa9" {
		t.Errorf("two bytes that are a rune when they are reversed, reversed twice: %q", got)
	}
}

// FuzzAll holds all calls against the document's words.
func FuzzAll(f *testing.F) {
	f.Add("a\xc3\xa9\xe6\x97\xa5\xf0\x9f\x98\x80", "\xe6\x97", 1, 2)
	f.Add("\xef\xbf\xbd\xff\xc0\x80", "\xff", -1, math.MaxInt)
	f.Add("", "", 65533, math.MinInt)
	f.Fuzz(func(t *testing.T, w, needle string, from, n int) {
		l := pieces(w)
		hold(t, w, l)
		holdCuts(t, w, l, []int{from, n, len(l) / 2})
		holdPlaces(t, w)
		holdFind(t, needle, w)
		holdFind(t, needle, w+needle)
		for _, number := range []int{from, n} {
			got, ok := Single(number)
			if want, is := singleByWords(number); got != want || ok != is {
				t.Errorf("Single(%d): %q, %v, not %q, %v", number, got, ok, want, is)
			}
		}
		if got := Reverse(Reverse(w)); isWellFormed(w) && got != w {
			t.Errorf("%q, reversed twice: %q", w, got)
		}
	})
}
