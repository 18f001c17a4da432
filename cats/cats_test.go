package cats

import (
	"fmt"
	"math"
	"slices"
	"strings"
	"testing"
)

const all = uint64(math.MaxUint64)

// none is numbers that are no category.
var none = []int{-1, -2, -63, -64, 64, 65, 100, 127, 128, 256, 1 << 32, 1<<32 + 5, -1 << 32, math.MinInt, math.MinInt + 1, math.MaxInt, math.MaxInt - 1}

// sets is ordinary sets, the edges, and one for each category, alone and left out.
func sets() []uint64 {
	l := []uint64{0, 1, 5, 6, 7, 1 << 63, 1<<63 | 1, 1<<62 | 1<<63, all >> 1, all &^ 1, all, 0x5555555555555555, 0xAAAAAAAAAAAAAAAA, 0x123456789ABCDEF0}
	for c := range 64 {
		l = append(l, 1<<c, all&^(1<<c), all>>c, all<<c)
	}
	return l
}

// members is which categories a set has, got by halving: another way than the program's.
func members(s uint64) []int {
	l := []int{}
	for c := 0; s > 0; c++ {
		if s%2 == 1 {
			l = append(l, c)
		}
		s /= 2
	}
	return l
}

// told is a list of numbers with commas between.
func told(l []int) string {
	return strings.ReplaceAll(strings.Trim(fmt.Sprint(l), "[]"), " ", ",")
}

// P1.1

func TestHas(t *testing.T) {
	for _, s := range sets() {
		l := members(s)
		for c := range 64 {
			if Has(s, c) != slices.Contains(l, c) {
				t.Errorf("Has(%x, %d)", s, c)
			}
		}
		for _, c := range none {
			if Has(s, c) {
				t.Errorf("Has(%x, %d) of what is no category", s, c)
			}
		}
	}
}

func TestWith(t *testing.T) {
	for _, s := range sets() {
		for c := range 64 {
			want := s
			if !slices.Contains(members(s), c) {
				want = s + 1<<c
			}
			if x, ok := With(s, c); !ok || x != want {
				t.Errorf("With(%x, %d): %x, %v", s, c, x, ok)
			}
		}
		for _, c := range none {
			if x, ok := With(s, c); ok || x != 0 {
				t.Errorf("With(%x, %d): %x, %v", s, c, x, ok)
			}
		}
	}
	for _, x := range []struct {
		s    uint64
		c    int
		want uint64
	}{{0, 0, 1}, {0, 63, 1 << 63}, {5, 1, 7}, {7, 1, 7}, {all >> 1, 63, all}, {all, 0, all}} {
		if got, ok := With(x.s, x.c); !ok || got != x.want {
			t.Errorf("With(%x, %d): %x, %v", x.s, x.c, got, ok)
		}
	}
}

func TestWithout(t *testing.T) {
	for _, s := range sets() {
		for c := range 64 {
			want := s
			if slices.Contains(members(s), c) {
				want = s - 1<<c
			}
			if x := Without(s, c); x != want {
				t.Errorf("Without(%x, %d): %x", s, c, x)
			}
		}
		for _, c := range none {
			if x := Without(s, c); x != s {
				t.Errorf("Without(%x, %d): %x", s, c, x)
			}
		}
	}
}

func TestWithin(t *testing.T) {
	for _, a := range sets() {
		for _, b := range sets() {
			want := true
			for _, c := range members(a) {
				want = want && slices.Contains(members(b), c)
			}
			if Within(a, b) != want {
				t.Errorf("Within(%x, %x)", a, b)
			}
		}
	}
	if !Within(0, 0) || !Within(0, all) || !Within(all, all) || Within(all, 0) || Within(1<<63, all>>1) || Within(1, all&^1) {
		t.Error("Within at the edges")
	}
}

func TestCountAndList(t *testing.T) {
	for _, s := range sets() {
		want := members(s)
		if n := Count(s); n != len(want) {
			t.Errorf("Count(%x): %d", s, n)
		}
		if l := List(s); !slices.Equal(l, want) {
			t.Errorf("List(%x): %v", s, l)
		}
	}
	if Count(0) != 0 || Count(all) != 64 || len(List(0)) != 0 {
		t.Error("Count and List at the edges")
	}
}

func TestListIsNewMemory(t *testing.T) {
	a := List(all)
	a[0] = 7
	a = append(a[:3], 9)
	if b := List(all); !slices.Equal(b, members(all)) {
		t.Errorf("List after another one was changed to %v: %v", a, b)
	}
}

// P1.2

func TestOf(t *testing.T) {
	for _, x := range []struct {
		l    []int
		want uint64
	}{{nil, 0}, {[]int{}, 0}, {[]int{0}, 1}, {[]int{63}, 1 << 63}, {[]int{3, 0, 3}, 9}, {[]int{63, 0, 63, 0}, 1<<63 | 1}, {[]int{2, 1, 0}, 7}} {
		if got, ok := Of(x.l); !ok || got != x.want {
			t.Errorf("Of(%v): %x, %v", x.l, got, ok)
		}
	}
	for _, s := range sets() {
		l := members(s)
		slices.Reverse(l)
		if got, ok := Of(append(l, members(s)...)); !ok || got != s {
			t.Errorf("Of twice all of %x: %x, %v", s, got, ok)
		}
	}
}

func TestOfWhatIsNoCategory(t *testing.T) {
	for _, c := range none {
		for _, l := range [][]int{{c}, {c, 1}, {1, c}, {0, 63, c, 5}, {c, c}} {
			if got, ok := Of(l); ok || got != 0 {
				t.Errorf("Of(%v): %x, %v", l, got, ok)
			}
		}
	}
}

func TestOfChangesNothing(t *testing.T) {
	room := []int{3, 0, 3, 8, 9}
	Of(room[:3])
	if !slices.Equal(room, []int{3, 0, 3, 8, 9}) {
		t.Errorf("Of changed what was handed in: %v", room)
	}
}

// P1.3

func TestText(t *testing.T) {
	for _, x := range []struct {
		s    uint64
		want string
	}{{0, ""}, {1, "0"}, {1 << 63, "63"}, {3, "0,1"}, {1<<7 | 1<<12, "7,12"}, {1<<63 | 1<<10 | 1<<9 | 1, "0,9,10,63"}} {
		if got := Text(x.s); got != x.want {
			t.Errorf("Text(%x): %q", x.s, got)
		}
	}
	for _, s := range sets() {
		if got := Text(s); got != told(members(s)) {
			t.Errorf("Text(%x): %q", s, got)
		}
	}
}

func TestParse(t *testing.T) {
	for _, x := range []struct {
		t    string
		want uint64
	}{{"", 0}, {"0", 1}, {"63", 1 << 63}, {"0,63", 1<<63 | 1}, {"7,12", 1<<7 | 1<<12}, {"9,10", 1<<9 | 1<<10}, {told(members(all)), all}} {
		if got, ok := Parse(x.t); !ok || got != x.want {
			t.Errorf("Parse(%q): %x, %v", x.t, got, ok)
		}
	}
}

func TestParseOfNoText(t *testing.T) {
	for _, w := range []string{
		"00", "01", "007", "063", "0,01", "1,02", "00,1", // noughts ahead
		"+1", "-1", "-0", "+0", "0,+1", "0,-1", "--1", // signs
		" ", " 1", "1 ", "1, 2", "1 ,2", "1,2 ", "\t1", "1\n", "1\n,2", // blanks
		",", ",,", ",1", "1,", "1,,2", ",1,2", "1,2,", "0,63,", // commas
		"1,1", "0,0", "63,63", "2,1", "63,0", "1,3,2", "1,2,1", "10,9", // not rising, or twice
		"64", "65", "99", "100", "127", "128", "256", "1,64", "0,99", "4294967296", "18446744073709551616", "18446744073709551617", // too great
		"a", "1a", "a1", "0x1", "1_0", "1.0", "1e1", "1;2", "1:2", "٣", "１", "1\x00", "\x00", "\xff", "1,\x80", "/", ":", "1/", "1:",
		strings.Repeat("1", 100000), strings.Repeat("0", 100000), strings.Repeat(",", 100000), strings.Repeat("1,", 100000), told(members(all)) + ",64", told(members(all)) + ",",
	} {
		if got, ok := Parse(w); ok || got != 0 {
			t.Errorf("Parse(%.40q): %x, %v", w, got, ok)
		}
	}
}

// P1.4

func TestWhatIsToldIsReadBack(t *testing.T) {
	s := uint64(1)
	for range 20000 {
		s = s*6364136223846793005 + 1442695040888963407
		for _, x := range []uint64{s, s & (s << 7) & (s >> 9), s >> (s % 64)} {
			if got, ok := Parse(Text(x)); !ok || got != x {
				t.Fatalf("Parse of Text(%x), %q: %x, %v", x, Text(x), got, ok)
			}
		}
	}
	for _, x := range sets() {
		if got, ok := Parse(Text(x)); !ok || got != x {
			t.Errorf("Parse of Text(%x), %q: %x, %v", x, Text(x), got, ok)
		}
	}
}

// TestOnlyWhatIsToldIsRead holds Parse against all texts of at most five bytes that these bytes make, and the texts of all sets that have so short a one.
func TestOnlyWhatIsToldIsRead(t *testing.T) {
	short := map[string]uint64{"": 0}
	for a := range 64 {
		short[told([]int{a})] = 1 << a
		for b := a + 1; b < 64; b++ {
			short[told([]int{a, b})] = 1<<a | 1<<b
			for c := b + 1; c < 64; c++ {
				short[told([]int{a, b, c})] = 1<<a | 1<<b | 1<<c
			}
		}
	}
	read := 0
	var look func(w string)
	look = func(w string) {
		want, may := short[w]
		if got, ok := Parse(w); ok != may || got != want {
			t.Errorf("Parse(%q): %x, %v", w, got, ok)
		}
		if may {
			read++
		}
		if len(w) < 5 {
			for _, x := range "0123456789,+- " {
				look(w + string(x))
			}
		}
	}
	look("")
	told5 := 0
	for w := range short {
		if len(w) <= 5 {
			told5++
		}
	}
	if read != told5 {
		t.Errorf("%d texts are read, of %d", read, told5)
	}
}

func FuzzParse(f *testing.F) {
	for _, w := range []string{"", "0", "7,12", "0,1,63", ",", "01", "64", "1,1", "2,1", "1, 2"} {
		f.Add(w)
	}
	f.Fuzz(func(t *testing.T, w string) {
		s, ok := Parse(w)
		if ok && Text(s) != w || !ok && s != 0 {
			t.Errorf("Parse(%q): %x, %v", w, s, ok)
		}
	})
}
