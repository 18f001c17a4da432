package label

import (
	"fmt"
	"math"
	"slices"
	"strings"
	"testing"

	"oculus/api"
)

const all = uint64(math.MaxUint64)

// outside is levels that no label that may be has.
var outside = []int{math.MinInt, math.MinInt + 1, -1 << 32, -16, -15, -2, -1, 16, 17, 31, 100, 255, 256, 1 << 32, 1<<32 + 5, math.MaxInt - 1, math.MaxInt}

// manyCats is sets of categories: few, many, the edges, and such as are not within one another.
var manyCats = []uint64{0, 1, 2, 3, 5, 1 << 12, 1<<7 | 1<<12, 1 << 63, 1<<63 | 1, all >> 1, all &^ 1, all &^ (1 << 31), all, 0x5555555555555555, 0xAAAAAAAAAAAAAAAA}

// levels is all levels of labels that may be, from 0 on.
func levels() []int {
	l := []int{}
	for n := range 16 {
		l = append(l, n)
	}
	return l
}

// labels is a label of each of these levels with each of these sets.
func labels(levels []int, sets []uint64) []api.Label {
	l := []api.Label{}
	for _, n := range levels {
		for _, s := range sets {
			l = append(l, api.Label{Level: n, Cats: s})
		}
	}
	return l
}

// may is labels that may be, mixed is these and others.
func may() []api.Label   { return labels(levels(), manyCats) }
func mixed() []api.Label { return labels(append([]int{0, 1, 7, 14, 15}, outside...), manyCats) }

// told is the categories of a set as the document writes them, found by halving: another way than the program's.
func told(s uint64) string {
	l := []string{}
	for c := 0; s > 0; c++ {
		if s%2 == 1 {
			l = append(l, fmt.Sprint(c))
		}
		s /= 2
	}
	return strings.Join(l, ",")
}

// within tells whether all of a are in b, category by category.
func within(a, b uint64) bool {
	for ; a > 0; a, b = a/2, b/2 {
		if a%2 > b%2 {
			return false
		}
	}
	return true
}

// P2.1

func TestMay(t *testing.T) {
	for _, s := range manyCats {
		for _, n := range levels() {
			if !May(api.Label{Level: n, Cats: s}) {
				t.Errorf("%d with %x may not be", n, s)
			}
		}
		for _, n := range outside {
			if May(api.Label{Level: n, Cats: s}) {
				t.Errorf("%d with %x may be", n, s)
			}
		}
	}
}

func TestBelow(t *testing.T) {
	for _, x := range []struct {
		a, b api.Label
		want bool
	}{
		{api.Label{}, api.Label{}, true},
		{api.Label{Level: 2, Cats: 1}, api.Label{Level: 1, Cats: 1 << 5}, false},
		{api.Label{Level: 1, Cats: 1 << 5}, api.Label{Level: 2, Cats: 1}, false},
		{api.Label{Level: 1, Cats: 1}, api.Label{Level: 2, Cats: 1}, true},
		{api.Label{Level: 2, Cats: 1}, api.Label{Level: 1, Cats: 3}, false},
		{api.Label{Level: 1, Cats: 3}, api.Label{Level: 1, Cats: 1}, false},
		{api.Label{Level: 1, Cats: 1}, api.Label{Level: 1, Cats: 3}, true},
		{api.Label{Level: 15, Cats: all}, api.Label{Level: 15, Cats: all}, true},
		{api.Label{Level: 15, Cats: all}, api.Label{Level: 15, Cats: all >> 1}, false},
		{api.Label{Level: -5}, api.Label{Level: -4}, true},
		{api.Label{Level: -4}, api.Label{Level: -5}, false},
		{api.Label{Level: math.MinInt}, api.Label{Level: math.MaxInt}, true},
		{api.Label{Level: math.MaxInt}, api.Label{Level: math.MinInt}, false},
		{api.Label{Level: 16}, api.Label{Level: 17, Cats: 1}, true},
		{api.Label{Level: 17}, api.Label{Level: 16, Cats: 1}, false},
	} {
		if Below(x.a, x.b) != x.want {
			t.Errorf("Below(%v, %v)", x.a, x.b)
		}
	}
}

// Below asks nothing of May.
func TestBelowOfAnyLevels(t *testing.T) {
	l := append(mixed(), may()...)
	for _, a := range l {
		for _, b := range l {
			if want := a.Level <= b.Level && within(a.Cats, b.Cats); Below(a, b) != want {
				t.Fatalf("Below(%v, %v): not %v", a, b, want)
			}
		}
	}
}

func TestJoinAndMeet(t *testing.T) {
	for _, x := range []struct{ a, b, join, meet api.Label }{
		{api.Label{Level: 2, Cats: 1}, api.Label{Level: 1, Cats: 1 << 5}, api.Label{Level: 2, Cats: 1<<5 | 1}, api.Label{Level: 1}},
		{api.Label{Level: 3, Cats: 6}, api.Label{Level: 3, Cats: 3}, api.Label{Level: 3, Cats: 7}, api.Label{Level: 3, Cats: 2}},
		{api.Label{}, api.Label{Level: 15, Cats: all}, api.Label{Level: 15, Cats: all}, api.Label{}},
		{api.Label{Level: 4, Cats: 1 << 63}, api.Label{Level: 4, Cats: 1 << 63}, api.Label{Level: 4, Cats: 1 << 63}, api.Label{Level: 4, Cats: 1 << 63}},
		{api.Label{Level: -3, Cats: 1}, api.Label{Level: -7, Cats: 2}, api.Label{Level: -3, Cats: 3}, api.Label{Level: -7}},
		{api.Label{Level: 99, Cats: 1}, api.Label{Level: 16}, api.Label{Level: 99, Cats: 1}, api.Label{Level: 16}},
		{api.Label{Level: math.MinInt}, api.Label{Level: math.MaxInt, Cats: all}, api.Label{Level: math.MaxInt, Cats: all}, api.Label{Level: math.MinInt}},
		{api.Label{Level: -1}, api.Label{}, api.Label{}, api.Label{Level: -1}},
	} {
		for _, y := range []struct{ a, b api.Label }{{x.a, x.b}, {x.b, x.a}} {
			if got := Join(y.a, y.b); got != x.join {
				t.Errorf("Join(%v, %v): %v", y.a, y.b, got)
			}
			if got := Meet(y.a, y.b); got != x.meet {
				t.Errorf("Meet(%v, %v): %v", y.a, y.b, got)
			}
		}
	}
}

// The join is the least one at or above both, the meet the greatest one at or below both: held against the order itself, of any levels.
func TestJoinAndMeetByTheOrder(t *testing.T) {
	l := labels([]int{math.MinInt, -2, -1, 0, 1, 14, 15, 16, math.MaxInt}, []uint64{0, 1, 2, 3, 1 << 63, all})
	for _, a := range l {
		for _, b := range l {
			j, m := Join(a, b), Meet(a, b)
			if !Below(a, j) || !Below(b, j) || !Below(m, a) || !Below(m, b) {
				t.Fatalf("join %v and meet %v of %v and %v", j, m, a, b)
			}
			for _, c := range l {
				if Below(a, c) && Below(b, c) && !Below(j, c) {
					t.Fatalf("the join of %v and %v is not %v, for %v is less", a, b, j, c)
				}
				if Below(c, a) && Below(c, b) && !Below(c, m) {
					t.Fatalf("the meet of %v and %v is not %v, for %v is greater", a, b, m, c)
				}
			}
		}
	}
}

func TestAll(t *testing.T) {
	for _, x := range []struct {
		l    []api.Label
		want api.Label
	}{
		{nil, api.Label{}},
		{[]api.Label{}, api.Label{}},
		{[]api.Label{{Level: 3, Cats: 5}}, api.Label{Level: 3, Cats: 5}},
		{[]api.Label{{Level: 3, Cats: 5}, {Level: 1, Cats: 2}, {Level: 2, Cats: 1 << 63}}, api.Label{Level: 3, Cats: 1<<63 | 7}},
		{[]api.Label{{Level: 1}, {Level: 1}, {Level: 15, Cats: all}, {}}, api.Label{Level: 15, Cats: all}},
		{[]api.Label{{Level: -4, Cats: 5}}, api.Label{Cats: 5}}, // the bottom is joined, too
		{[]api.Label{{Level: math.MinInt}, {Level: -1, Cats: 8}}, api.Label{Cats: 8}},
		{[]api.Label{{Level: 16}, {Level: 3, Cats: 1}}, api.Label{Level: 16, Cats: 1}},
		{[]api.Label{{Level: 2}, {Level: math.MaxInt, Cats: 4}}, api.Label{Level: math.MaxInt, Cats: 4}},
	} {
		if got := All(x.l); got != x.want {
			t.Errorf("All(%v): %v", x.l, got)
		}
	}
}

func TestAllChangesNothing(t *testing.T) {
	room := []api.Label{{Level: 1, Cats: 1}, {Level: 2, Cats: 2}, {Level: 3, Cats: 4}}
	was := slices.Clone(room)
	All(room[:2])
	if !slices.Equal(room, was) {
		t.Errorf("All changed what was handed in: %v", room)
	}
}

func TestBottomAndTop(t *testing.T) {
	if Bottom() != (api.Label{}) || Top() != (api.Label{Level: 15, Cats: all}) {
		t.Errorf("bottom %v, top %v", Bottom(), Top())
	}
	for _, l := range may() {
		if !Below(Bottom(), l) || !Below(l, Top()) {
			t.Errorf("%v is not between the bottom and the top", l)
		}
	}
}

// P2.2

func TestText(t *testing.T) {
	for _, x := range []struct {
		l    api.Label
		want string
	}{
		{api.Label{}, "0"},
		{api.Label{Level: 7}, "7"},
		{api.Label{Level: 10}, "10"},
		{api.Label{Level: 15}, "15"},
		{api.Label{Cats: 1}, "0:0"},
		{api.Label{Level: 2, Cats: 1<<5 | 1}, "2:0,5"},
		{api.Label{Level: 12, Cats: 1<<63 | 1<<10 | 1<<9}, "12:9,10,63"},
		{api.Label{Level: 15, Cats: all}, "top"},
		{api.Label{Level: 14, Cats: all}, "14:" + told(all)},
		{api.Label{Cats: all}, "0:" + told(all)},
		{api.Label{Level: 15, Cats: all >> 1}, "15:" + told(all>>1)},
		{api.Label{Level: 15, Cats: all &^ 1}, "15:" + told(all&^1)},
	} {
		if got := Text(x.l); got != x.want {
			t.Errorf("Text(%v): %q", x.l, got)
		}
	}
}

func TestTextOfAllLevels(t *testing.T) {
	for _, l := range may() {
		want := fmt.Sprint(l.Level)
		if l.Cats > 0 {
			want += ":" + told(l.Cats)
		}
		if l.Level == 15 && l.Cats == all {
			want = "top"
		}
		if got := Text(l); got != want {
			t.Errorf("Text(%v): %q", l, got)
		}
	}
}

func TestTextOfWhatMayNotBe(t *testing.T) {
	for _, l := range labels(outside, manyCats) {
		if got := Text(l); got != "" {
			t.Errorf("Text(%v): %q", l, got)
		}
	}
}

func TestParse(t *testing.T) {
	for _, x := range []struct {
		t    string
		want api.Label
	}{
		{"0", api.Label{}},
		{"9", api.Label{Level: 9}},
		{"15", api.Label{Level: 15}},
		{"0:0", api.Label{Cats: 1}},
		{"0:63", api.Label{Cats: 1 << 63}},
		{"2:0,5", api.Label{Level: 2, Cats: 1<<5 | 1}},
		{"10:9,10", api.Label{Level: 10, Cats: 1<<10 | 1<<9}},
		{"top", api.Label{Level: 15, Cats: all}},
		{"14:" + told(all), api.Label{Level: 14, Cats: all}},
		{"15:" + told(all>>1), api.Label{Level: 15, Cats: all >> 1}},
	} {
		if got, ok := Parse(x.t); !ok || got != x.want {
			t.Errorf("Parse(%q): %v, %v", x.t, got, ok)
		}
	}
}

func TestParseOfNoText(t *testing.T) {
	for _, w := range []string{
		"", ":", "::", ":0", ":1,2", ",", "0,1", "1,", // no level
		"00", "01", "007", "015", "00:1", "01:1", "0000000000000000000000015", // noughts ahead
		"+0", "+1", "-0", "-1", "--1", "+15:1", "-1:1", // signs
		" ", " 1", "1 ", "1 :2", "1: 2", "1:2 ", "\t1", "1\n", "top ", " top", "1\n:2", // blanks
		"16", "17", "99", "100", "255", "256", "16:0", "4294967296", "18446744073709551616", "18446744073709551617", "9223372036854775807", "9223372036854775808", "-9223372036854775808", // too great, or too small
		"0:", "1:", "15:", "1::", "1::2", "1:2:", "1:2:3", "1:2,", "1:,", "1:,2", "1:2,,3", // colons and commas
		"1:1,1", "1:2,1", "1:63,0", "1:00", "1:01", "1:64", "1:+1", "1:-1", "1:100", "1:a", "1:0,64", // no set
		"15:" + told(all), "16:" + told(all), "15:" + told(all) + ",64", "14:" + told(all) + ",", // the top has a word of its own
		"Top", "TOP", "tOp", "to", "topp", "ttop", "top:", "top:0", "top:" + told(all), "t", "0top", "15:top", "bottom", "\"top\"", // words
		"a", "1a", "a1", "0x1", "1_0", "1.0", "1e1", "1;2", "1,2", "1/", "٣", "１", "1\x00", "\x00", "top\x00", "\xff", "1\xff", "1:\x80", "1：2",
		strings.Repeat("1", 100000), strings.Repeat("0", 100000) + "1", strings.Repeat(":", 100000), "1:" + strings.Repeat("1,", 100000), strings.Repeat("top", 100000),
	} {
		if got, ok := Parse(w); ok || got != (api.Label{}) {
			t.Errorf("Parse(%.40q): %v, %v", w, got, ok)
		}
	}
}

func TestWhatIsToldIsReadBack(t *testing.T) {
	s := uint64(1)
	for range 5000 {
		s = s*6364136223846793005 + 1442695040888963407
		for _, l := range labels(levels(), []uint64{s, s & (s << 7) & (s >> 9), 1 << (s >> 58)}) {
			if got, ok := Parse(Text(l)); !ok || got != l {
				t.Fatalf("Parse of Text(%v), %q: %v, %v", l, Text(l), got, ok)
			}
		}
	}
	for _, l := range may() {
		if got, ok := Parse(Text(l)); !ok || got != l {
			t.Errorf("Parse of Text(%v), %q: %v, %v", l, Text(l), got, ok)
		}
	}
}

// shortTexts is the labels that have a text of at most five bytes, by that text, written out as the document says it.
func shortTexts() map[string]api.Label {
	l := map[string]api.Label{"top": {Level: 15, Cats: all}}
	add := func(w string, x api.Label) {
		if len(w) <= 5 {
			l[w] = x
		}
	}
	for n := range 16 {
		add(fmt.Sprint(n), api.Label{Level: n})
		for a := range 64 {
			add(fmt.Sprintf("%d:%d", n, a), api.Label{Level: n, Cats: 1 << a})
			for b := a + 1; b < 64; b++ {
				add(fmt.Sprintf("%d:%d,%d", n, a, b), api.Label{Level: n, Cats: 1<<a | 1<<b})
			}
		}
	}
	return l
}

// TestOnlyWhatIsToldIsRead holds Parse against all texts of at most five bytes that these bytes make.
func TestOnlyWhatIsToldIsRead(t *testing.T) {
	short := shortTexts()
	read := 0
	var look func(w string)
	look = func(w string) {
		want, may := short[w]
		if got, ok := Parse(w); ok != may || got != want {
			t.Errorf("Parse(%q): %v, %v", w, got, ok)
		}
		if may {
			read++
		}
		if len(w) < 5 {
			for _, x := range "0123456789:,+- top" {
				look(w + string(x))
			}
		}
	}
	look("")
	if read != len(short) {
		t.Errorf("%d texts are read, of %d", read, len(short))
	}
}

func FuzzParse(f *testing.F) {
	for _, w := range []string{"", "0", "15", "16", "2:0,5", "0:", "01", "top", "15:0,63", "1:2,1", "-1", "+1:1"} {
		f.Add(w)
	}
	f.Fuzz(func(t *testing.T, w string) {
		l, ok := Parse(w)
		if ok && (!May(l) || Text(l) != w) || !ok && l != (api.Label{}) {
			t.Errorf("Parse(%q): %v, %v", w, l, ok)
		}
	})
}

// P2.3

func TestLabelsAreALattice(t *testing.T) {
	l := labels([]int{0, 1, 7, 14, 15}, []uint64{0, 1, 2, 3, 6, 1 << 63, all >> 1, all &^ 1, all})
	for _, a := range l {
		if Join(a, a) != a || Meet(a, a) != a {
			t.Errorf("join and meet of %v and itself", a)
		}
		if Join(a, Bottom()) != a || Meet(a, Top()) != a || Join(a, Top()) != Top() || Meet(a, Bottom()) != Bottom() {
			t.Errorf("join and meet of %v with the bottom and the top", a)
		}
		for _, b := range l {
			twoOfALattice(t, a, b)
			for _, c := range l {
				if Join(Join(a, b), c) != Join(a, Join(b, c)) || Meet(Meet(a, b), c) != Meet(a, Meet(b, c)) {
					t.Fatalf("brackets of %v, %v and %v", a, b, c)
				}
			}
		}
	}
}

func twoOfALattice(t *testing.T, a, b api.Label) {
	j, m := Join(a, b), Meet(a, b)
	if !May(j) || !May(m) {
		t.Errorf("join and meet of %v and %v go out of the lattice", a, b)
	}
	if j != Join(b, a) || m != Meet(b, a) {
		t.Errorf("order of %v and %v", a, b)
	}
	if Join(a, m) != a || Meet(a, j) != a {
		t.Errorf("%v and %v don't take one another up", a, b)
	}
	if Below(a, b) != (j == b) || Below(a, b) != (m == a) || Below(a, b) && Below(b, a) != (a == b) {
		t.Errorf("the order of %v and %v is not that of join and meet", a, b)
	}
	if All([]api.Label{a, b}) != j || All([]api.Label{b, a, b}) != j {
		t.Errorf("All of %v and %v is not their join", a, b)
	}
}
