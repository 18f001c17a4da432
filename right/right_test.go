package right

import (
	"math"
	"slices"
	"strings"
	"testing"

	"oculus/api"
)

const all = uint64(math.MaxUint64)

// The letters and the digits of names, spelled out.
const (
	letters = "abcdefghijklmnopqrstuvwxyz"
	digits  = "0123456789"
)

// labelOf is a label of a level and categories.
func labelOf(level int, cats uint64) api.Label { return api.Label{Level: level, Cats: cats} }

// userOf is a user of a name, a level and categories.
func userOf(name string, level int, cats uint64) api.User {
	return api.User{Name: name, Clear: labelOf(level, cats)}
}

// grantOf is a grant of a user, from a label to another one.
func grantOf(user string, from, to api.Label) api.Grant {
	return api.Grant{User: user, From: from, To: to}
}

// isBelow is the document's word on the order of labels.
func isBelow(a, b api.Label) bool { return a.Level <= b.Level && a.Cats&b.Cats == a.Cats }

// leaking is the document's word on which grants leak to a label.
func leaking(g api.Grant, at api.Label) bool { return isBelow(g.To, at) && !isBelow(g.From, at) }

// smallLabels is all labels of three levels and two categories: many of them not at or below one another.
func smallLabels() []api.Label {
	l := []api.Label{}
	for level := range 3 {
		for cats := range uint64(4) {
			l = append(l, labelOf(level, cats))
		}
	}
	return l
}

// oddLabels is the edges of labels that may be, and such as may not be.
func oddLabels() []api.Label {
	l := []api.Label{}
	for _, level := range []int{math.MinInt, -1 << 32, -1, 0, 1, 15, 16, 1 << 32, math.MaxInt} {
		for _, cats := range []uint64{0, 1, 1 << 63, all &^ 1, all} {
			l = append(l, labelOf(level, cats))
		}
	}
	return l
}

// noLabels is labels that may not be.
func noLabels() []api.Label {
	return []api.Label{labelOf(16, 0), labelOf(16, all), labelOf(-1, 0), labelOf(-1, all), labelOf(1<<32, 0), labelOf(1<<32+3, 0), labelOf(math.MinInt, 0), labelOf(math.MaxInt, 1)}
}

// P6.1

func TestName(t *testing.T) {
	for _, x := range []struct {
		t    string
		want bool
	}{
		{"ann", true}, {"a", true}, {"z", true}, {"a0", true}, {"z9", true}, {"bob7x", true}, {"a0123456789", true},
		{"abcdefghijklmnop", true}, {"qrstuvwxyz012345", true}, {"a000000000000000", true}, // 16 bytes
		{"abcdefghijklmnopq", false}, {"a0000000000000000", false}, {"abcdefghijklmno\xc3\xa9", false}, // 17
		{"", false}, {"0", false}, {"9", false}, {"0a", false}, {"7bob", false},
		{"A", false}, {"Ann", false}, {"anN", false}, {"Z", false},
		{" ", false}, {" ann", false}, {"ann ", false}, {"a b", false}, {"ann\n", false}, {"\nann", false}, {"a\x00", false}, {"\x00", false},
		{"a-b", false}, {"a_b", false}, {"a.b", false}, {"_", false}, {"a:", false}, {"a/", false}, {"a`", false}, {"a{", false}, {"`", false}, {"{", false},
		{"\xc3\xa9", false}, {"a\xc3\xa9", false}, {"\xff", false}, {"a\xe1", false}, {"a\x80", false}, {"a\u0661", false}, {"\uff41", false},
	} {
		if Name(x.t) != x.want {
			t.Errorf("Name(%q): not %v", x.t, x.want)
		}
	}
}

// TestNameOfEachByte lays each byte at each place of names of each length.
func TestNameOfEachByte(t *testing.T) {
	for size := 1; size <= 18; size++ {
		for place := range size {
			for b := range 256 {
				name := []byte(strings.Repeat("k", size))
				name[place] = byte(b)
				told := strings.IndexByte(letters, byte(b)) >= 0 || place > 0 && strings.IndexByte(digits, byte(b)) >= 0
				if want := told && size <= 16; Name(string(name)) != want {
					t.Errorf("Name(%q): not %v", name, want)
				}
			}
		}
	}
}

func TestNameOfEachLength(t *testing.T) {
	for _, size := range []int{0, 1, 2, 15, 16, 17, 18, 31, 32, 255, 256, 257, 272, 1 << 16, 1<<16 + 16} {
		for _, piece := range []string{"a", "z", "m9", "a0b"} {
			name := strings.Repeat(piece, size)[:size]
			if want := size >= 1 && size <= 16; Name(name) != want {
				t.Errorf("Name of %d bytes: not %v", size, want)
			}
		}
	}
}

func TestFind(t *testing.T) {
	l := []api.User{userOf("ann", 2, 1), userOf("bob", 15, all), userOf("ann", 9, 6), userOf("", 3, 8), userOf("Ann", 4, 0), userOf("an", 5, 0), userOf("no name", 16, 1), userOf("low", -7, 0), userOf("nil", 0, 0)}
	for _, x := range []struct {
		l    []api.User
		name string
		want api.Label
		ok   bool
	}{
		{nil, "ann", api.Label{}, false},
		{nil, "", api.Label{}, false},
		{[]api.User{}, "ann", api.Label{}, false},
		{l, "ann", labelOf(2, 1), true}, // the first one, neither the last nor the greatest one
		{l[1:], "ann", labelOf(9, 6), true},
		{l[:2], "bob", labelOf(15, all), true},
		{l[3:], "ann", api.Label{}, false},
		{l, "bob", labelOf(15, all), true},
		{l, "an", labelOf(5, 0), true},
		{l[:5], "an", api.Label{}, false},
		{l, "Ann", labelOf(4, 0), true},
		{l, "ANN", api.Label{}, false},
		{l, "a", api.Label{}, false},
		{l, "anna", api.Label{}, false},
		{l, "ann ", api.Label{}, false},
		{l, "ann\x00", api.Label{}, false},
		{l, "", labelOf(3, 8), true},
		{l[:3], "", api.Label{}, false},
		{l, "no name", labelOf(16, 1), true}, // as it is, whatever the name and the label are
		{l, "low", labelOf(-7, 0), true},
		{l, "nil", api.Label{}, true},
	} {
		if got, ok := Find(x.l, x.name); got != x.want || ok != x.ok {
			t.Errorf("Find(%v, %q): %v, %v", x.l, x.name, got, ok)
		}
	}
}

// TestFindOfManyUsers asks for each user of long lists: nobody is cut off, for only Users asks how many there are.
func TestFindOfManyUsers(t *testing.T) {
	l := []api.User{}
	for i := range 500 {
		name := letters[i%26:i%26+1] + strings.Repeat("0", i/26)
		if _, ok := Find(l, name); ok {
			t.Errorf("%q is found ahead of being there", name)
		}
		l = append(l, userOf(name, i, uint64(i)))
	}
	for i, u := range l {
		if got, ok := Find(l, u.Name); !ok || got != labelOf(i, uint64(i)) {
			t.Errorf("Find of %q: %v, %v", u.Name, got, ok)
		}
	}
}

func TestActs(t *testing.T) {
	l := []api.User{userOf("ann", 2, 5), userOf("bob", 0, 0), userOf("ann", 15, all), userOf("top", 15, all), userOf("high", 99, all), userOf("low", -1, all), userOf("", 1, 0)}
	for _, x := range []struct {
		name string
		at   api.Label
		want api.Errno
	}{
		{"ann", labelOf(0, 0), api.OK},
		{"ann", labelOf(2, 5), api.OK},
		{"ann", labelOf(2, 1), api.OK},
		{"ann", labelOf(1, 4), api.OK},
		{"ann", labelOf(3, 5), api.ErrLevel}, // the second one of that name does not count
		{"ann", labelOf(3, 0), api.ErrLevel},
		{"ann", labelOf(2, 7), api.ErrLevel},
		{"ann", labelOf(0, 2), api.ErrLevel},
		{"ann", labelOf(15, all), api.ErrLevel},
		{"ann", labelOf(-1, 0), api.ErrLevel}, // below, but none that may be
		{"ann", labelOf(math.MinInt, 1), api.ErrLevel},
		{"ann", labelOf(math.MaxInt, 0), api.ErrLevel},
		{"bob", labelOf(0, 0), api.OK},
		{"bob", labelOf(1, 0), api.ErrLevel},
		{"bob", labelOf(0, 1<<63), api.ErrLevel},
		{"top", labelOf(15, all), api.OK},
		{"top", labelOf(0, 0), api.OK},
		{"top", labelOf(16, all), api.ErrLevel},
		{"high", labelOf(15, all), api.OK},
		{"high", labelOf(16, 0), api.ErrLevel},
		{"high", labelOf(99, all), api.ErrLevel},
		{"low", labelOf(0, 0), api.ErrLevel},
		{"low", labelOf(-1, 0), api.ErrLevel},
		{"", labelOf(1, 0), api.OK},
		{"", labelOf(2, 0), api.ErrLevel},
		{"eve", labelOf(0, 0), api.ErrUser},
		{"eve", labelOf(16, 0), api.ErrUser}, // of two the one named first
		{"eve", labelOf(-1, 0), api.ErrUser},
		{"Ann", labelOf(0, 0), api.ErrUser},
		{"an", labelOf(0, 0), api.ErrUser},
		{"annn", labelOf(0, 0), api.ErrUser},
	} {
		if got := Acts(l, x.name, x.at); got != x.want {
			t.Errorf("Acts(%q, %v): %d", x.name, x.at, got)
		}
	}
	for _, none := range [][]api.User{nil, {}} {
		for _, name := range []string{"", "ann"} {
			if got := Acts(none, name, api.Label{}); got != api.ErrUser {
				t.Errorf("Acts of no users, %q: %d", name, got)
			}
		}
	}
}

func TestActsIsByTheOrder(t *testing.T) {
	l := append(smallLabels(), oddLabels()...)
	for _, highest := range l {
		users := []api.User{userOf("bob", 15, all), {Name: "ann", Clear: highest}, userOf("ann", 15, all)}
		for _, at := range l {
			want := api.ErrLevel
			if at.Level >= 0 && at.Level <= 15 && isBelow(at, highest) {
				want = api.OK
			}
			if got := Acts(users, "ann", at); got != want {
				t.Errorf("Acts at %v up to %v: %d", at, highest, got)
			}
		}
	}
}

// P6.2

// someGrants is grants of three holders: of several, of crossing labels, of such as lower nothing, and of labels that may not be.
func someGrants() []api.Grant {
	return []api.Grant{
		grantOf("ann", labelOf(2, 0), labelOf(0, 0)),
		grantOf("bob", labelOf(2, 3), labelOf(1, 1)),
		grantOf("ann", labelOf(1, 2), labelOf(0, 1)),
		grantOf("eve", labelOf(0, 0), labelOf(2, 3)),
		grantOf("bob", labelOf(1, 1), labelOf(1, 1)),
		grantOf("eve", labelOf(15, all), labelOf(0, 2)),
		grantOf("", labelOf(16, 1), labelOf(-1, 0)),
		grantOf("ann", labelOf(-1, 3), labelOf(16, 0)),
	}
}

// grantLists is all lists of at most three of these grants, one of them perhaps several times.
func grantLists() [][]api.Grant {
	l := [][]api.Grant{{}}
	for from := 0; len(l[from]) < 3; from++ {
		for _, g := range someGrants() {
			l = append(l, append(slices.Clone(l[from]), g))
		}
	}
	return l
}

func TestLowers(t *testing.T) {
	l := []api.Grant{grantOf("ann", labelOf(2, 3), labelOf(1, 1)), grantOf("bob", labelOf(5, 0), labelOf(0, 0)), grantOf("ann", labelOf(1, 8), labelOf(0, 8))}
	for _, x := range []struct {
		user     string
		from, to api.Label
		want     bool
	}{
		{"ann", labelOf(2, 3), labelOf(1, 1), true},
		{"ann", labelOf(2, 0), labelOf(1, 1), true},
		{"ann", labelOf(0, 0), labelOf(1, 1), true}, // raised, and yet let by the grant
		{"ann", labelOf(2, 3), labelOf(2, 3), true},
		{"ann", labelOf(2, 3), labelOf(1, 5), true},
		{"ann", labelOf(2, 3), labelOf(15, all), true},
		{"ann", labelOf(3, 3), labelOf(1, 1), false},
		{"ann", labelOf(2, 7), labelOf(1, 1), false},
		{"ann", labelOf(2, 3), labelOf(0, 1), false},
		{"ann", labelOf(2, 3), labelOf(1, 0), false},
		{"ann", labelOf(2, 3), labelOf(2, 2), false},
		{"ann", labelOf(0, 0), labelOf(0, 0), false}, // lowered to itself, but no grant of hers ends there
		{"ann", labelOf(1, 8), labelOf(0, 8), true},
		{"ann", labelOf(2, 3), labelOf(0, 8), false}, // neither of her grants does both
		{"ann", labelOf(1, 9), labelOf(0, 9), false},
		{"ann", labelOf(5, 0), labelOf(0, 0), false}, // bob's
		{"bob", labelOf(5, 0), labelOf(0, 0), true},
		{"bob", labelOf(2, 1), labelOf(1, 1), false},
		{"bob", labelOf(math.MinInt, 0), labelOf(math.MaxInt, 0), true},
		{"bob", labelOf(5, 0), labelOf(-1, 0), false},
		{"bob", labelOf(6, 0), labelOf(15, all), false},
		{"eve", labelOf(0, 0), labelOf(15, all), false},
		{"", labelOf(0, 0), labelOf(15, all), false},
		{"Ann", labelOf(2, 3), labelOf(1, 1), false},
		{"an", labelOf(2, 3), labelOf(1, 1), false},
		{"ann ", labelOf(2, 3), labelOf(1, 1), false},
	} {
		if Lowers(l, x.user, x.from, x.to) != x.want {
			t.Errorf("Lowers(%q, %v, %v): not %v", x.user, x.from, x.to, x.want)
		}
	}
}

func TestWithoutGrants(t *testing.T) {
	labels := append(smallLabels(), oddLabels()...)
	for _, none := range [][]api.Grant{nil, {}} {
		for _, a := range labels {
			for _, b := range labels {
				if Lowers(none, "ann", a, b) || Lowers(none, "", a, b) {
					t.Errorf("%v is lowered to %v without a grant", a, b)
				}
			}
			if Leaks(none, a) || len(Holders(none, a)) != 0 {
				t.Errorf("something leaks to %v without a grant", a)
			}
		}
	}
}

// TestLowersByTheOrder holds one grant of each kind against the document's words, of all labels.
func TestLowersByTheOrder(t *testing.T) {
	labels := append(smallLabels(), labelOf(-1, 0), labelOf(16, 3))
	for _, high := range labels {
		for _, low := range labels {
			l := []api.Grant{grantOf("ann", high, low)}
			for _, from := range labels {
				for _, to := range labels {
					if want := isBelow(from, high) && isBelow(low, to); Lowers(l, "ann", from, to) != want {
						t.Fatalf("Lowers(%v, %v, %v): not %v", l, from, to, want)
					}
					if Lowers(l, "bob", from, to) {
						t.Fatalf("bob lowers %v to %v by %v", from, to, l)
					}
				}
			}
		}
	}
}

func TestLeaks(t *testing.T) {
	for _, x := range []struct {
		from, to, at api.Label
		want         bool
	}{
		{labelOf(2, 0), labelOf(0, 0), labelOf(0, 0), true},
		{labelOf(2, 0), labelOf(0, 0), labelOf(1, all), true},
		{labelOf(2, 0), labelOf(0, 0), labelOf(2, 0), false}, // that label sees it anyway
		{labelOf(2, 0), labelOf(0, 0), labelOf(15, all), false},
		{labelOf(2, 0), labelOf(1, 0), labelOf(0, 0), false}, // not down to that one
		{labelOf(2, 0), labelOf(1, 0), labelOf(1, 0), true},
		{labelOf(2, 0), labelOf(1, 4), labelOf(1, 3), false},
		{labelOf(2, 0), labelOf(1, 4), labelOf(1, 7), true},
		{labelOf(0, 6), labelOf(0, 2), labelOf(9, 2), true}, // a category alone
		{labelOf(0, 6), labelOf(0, 2), labelOf(9, 6), false},
		{labelOf(0, 6), labelOf(0, 2), labelOf(9, 4), false},
		{labelOf(1, 1), labelOf(0, 2), labelOf(0, 2), true}, // From and To not at or below one another
		{labelOf(1, 1), labelOf(0, 2), labelOf(1, 3), false},
		{labelOf(1, 1), labelOf(1, 1), labelOf(1, 1), false}, // From is To: it leaks to none
		{labelOf(1, 1), labelOf(1, 1), labelOf(0, 0), false},
		{labelOf(1, 1), labelOf(1, 1), labelOf(15, all), false},
		{labelOf(0, 0), labelOf(2, 3), labelOf(2, 3), false}, // From below To: none
		{labelOf(0, 0), labelOf(2, 3), labelOf(1, 0), false},
		{labelOf(16, 0), labelOf(-1, 0), labelOf(-1, 0), true}, // also of those that may not be
		{labelOf(16, 0), labelOf(-1, 0), labelOf(15, all), true},
		{labelOf(16, 0), labelOf(-1, 0), labelOf(16, 0), false},
		{labelOf(16, 0), labelOf(-1, 0), labelOf(-2, 0), false},
		{labelOf(math.MaxInt, 0), labelOf(math.MinInt, 0), labelOf(math.MinInt, 0), true},
		{labelOf(math.MinInt, 0), labelOf(math.MaxInt, 0), labelOf(math.MaxInt, 0), false},
	} {
		g := grantOf("ann", x.from, x.to)
		holders := []string{}
		if x.want {
			holders = append(holders, "ann")
		}
		if l := []api.Grant{g}; Leaks(l, x.at) != x.want || !slices.Equal(Holders(l, x.at), holders) {
			t.Errorf("of %v to %v: %v, %v", g, x.at, Leaks(l, x.at), Holders(l, x.at))
		}
	}
}

// TestNothingLeaksFromBelow asks of all grants whose From is at or below their To, or that label: what is seen there anyway does not leak.
func TestNothingLeaksFromBelow(t *testing.T) {
	labels := append(smallLabels(), oddLabels()...)
	for _, from := range labels {
		for _, to := range labels {
			for _, at := range labels {
				l := []api.Grant{grantOf("ann", from, to)}
				if (isBelow(from, to) || isBelow(from, at) || !isBelow(to, at)) && Leaks(l, at) {
					t.Fatalf("%v leaks to %v", l, at)
				}
			}
		}
	}
}

func TestHolders(t *testing.T) {
	down := func(user string) api.Grant { return grantOf(user, labelOf(3, 0), labelOf(1, 0)) }
	other := func(user string) api.Grant { return grantOf(user, labelOf(9, 9), labelOf(0, 0)) }
	never := func(user string) api.Grant { return grantOf(user, labelOf(1, 0), labelOf(3, 0)) }
	for _, x := range []struct {
		l    []api.Grant
		want []string
	}{
		{[]api.Grant{down("ann")}, []string{"ann"}},
		{[]api.Grant{never("ann")}, nil},
		{[]api.Grant{down("zoe"), down("ann"), down("bob")}, []string{"zoe", "ann", "bob"}}, // as they stand, not by their names
		{[]api.Grant{down("ann"), other("ann"), down("ann")}, []string{"ann"}},
		{[]api.Grant{down("bob"), down("ann"), other("bob"), other("ann")}, []string{"bob", "ann"}},
		{[]api.Grant{never("ann"), down("bob"), down("ann"), down("bob")}, []string{"bob", "ann"}}, // the grant that leaks is where a user stands
		{[]api.Grant{never("ann"), never("ann"), down("bob"), never("eve")}, []string{"bob"}},
		{[]api.Grant{down("ann"), down("Ann"), down("an"), down("")}, []string{"ann", "Ann", "an", ""}},
		{[]api.Grant{down(""), other("")}, []string{""}},
	} {
		if got := Holders(x.l, labelOf(1, 0)); !slices.Equal(got, x.want) {
			t.Errorf("Holders(%v): %q", x.l, got)
		}
	}
}

// TestHoldersOfManyGrants asks of long lists: no grant is cut off, for only Grants asks how many there are.
func TestHoldersOfManyGrants(t *testing.T) {
	l, want := []api.Grant{}, []string{}
	for i := range 300 {
		user := strings.Repeat("u", i%100+1)
		l = append(l, grantOf(user, labelOf(2, 0), labelOf(1, 0)))
		if i < 100 {
			want = append(want, user)
		}
	}
	l = append(l, grantOf("last", labelOf(2, 0), labelOf(0, 0)))
	if got := Holders(l, labelOf(1, 0)); !slices.Equal(got, append(want, "last")) {
		t.Errorf("Holders: %q", got)
	}
	if got := Holders(l, labelOf(0, 0)); !slices.Equal(got, []string{"last"}) {
		t.Errorf("Holders of the bottom: %q", got)
	}
	if !Leaks(l, labelOf(0, 0)) || !Lowers(l, "last", labelOf(2, 0), labelOf(0, 0)) || Lowers(l[:300], "last", labelOf(2, 0), labelOf(0, 0)) {
		t.Error("the last one's grant")
	}
}

// TestGrantsAreThoseOfTheDocument holds lists of up to three grants against the document's words.
func TestGrantsAreThoseOfTheDocument(t *testing.T) {
	labels := append(smallLabels(), labelOf(15, all), labelOf(16, 0), labelOf(-1, 3))
	for i, l := range grantLists() {
		for j, at := range labels {
			holders := []string{}
			for _, g := range l {
				if leaking(g, at) {
					holders = append(holders, g.User)
				}
			}
			holders = once(holders)
			if Leaks(l, at) != (len(holders) > 0) || !slices.Equal(Holders(l, at), holders) {
				t.Fatalf("of %v to %v: %v, %q", l, at, Leaks(l, at), Holders(l, at))
			}
			to := labels[(i+j)%len(labels)]
			for _, user := range []string{"ann", "bob", "eve", ""} {
				want := slices.ContainsFunc(l, func(g api.Grant) bool { return g.User == user && isBelow(at, g.From) && isBelow(g.To, to) })
				if Lowers(l, user, at, to) != want {
					t.Fatalf("Lowers(%v, %q, %v, %v): not %v", l, user, at, to, want)
				}
			}
		}
	}
}

// once is a list with just the first one of each.
func once(l []string) []string {
	o := []string{}
	for i, x := range l {
		if slices.Index(l, x) == i {
			o = append(o, x)
		}
	}
	return o
}

func TestHoldersIsNewEachTime(t *testing.T) {
	l := someGrants()
	want := Holders(l, labelOf(1, 3))
	a, b := Holders(l, labelOf(1, 3)), Holders(l, labelOf(1, 3))
	for i := range a {
		a[i] = "gone"
	}
	_ = append(a, "more")
	if len(want) < 2 || !slices.Equal(b, want) || !slices.Equal(Holders(l, labelOf(1, 3)), want) {
		t.Errorf("Holders: %q, and then %q", b, Holders(l, labelOf(1, 3)))
	}
}

// P6.3

// goodUsers is so many users that are right, each of an own name.
func goodUsers(n int) []api.User {
	l := []api.User{}
	for i := range n {
		l = append(l, userOf(letters[i%26:i%26+1]+strings.Repeat("1", i/26), i%16, 1<<(i%64)))
	}
	return l
}

// goodGrants is so many grants that are right, of the users of these names.
func goodGrants(n, users int) []api.Grant {
	l := []api.Grant{}
	for i := range n {
		l = append(l, grantOf(letters[i%users:i%users+1], labelOf(i%16, all), labelOf((i+7)%16, 0)))
	}
	return l
}

func TestUsersOfOneUser(t *testing.T) {
	for _, x := range []struct {
		u    api.User
		want api.Errno
	}{
		{userOf("zoe", 0, 0), api.OK},
		{userOf("zoe", 15, all), api.OK},
		{userOf("z", 7, 1), api.OK},
		{userOf("aa", 0, 0), api.OK}, // near another one's name, but none's
		{userOf("a1", 0, 0), api.OK},
		{userOf("abcdefghijklmnop", 0, 0), api.OK},
		{userOf("abcdefghijklmnopq", 0, 0), api.ErrForm},
		{userOf("", 0, 0), api.ErrForm},
		{userOf("A", 0, 0), api.ErrForm},
		{userOf("1a", 0, 0), api.ErrForm},
		{userOf("a b", 0, 0), api.ErrForm},
		{userOf("zo\xc3\xa9", 0, 0), api.ErrForm},
		{userOf("a", 5, 5), api.ErrTwice}, // if one stands ahead
		{userOf("a", 0, 1), api.ErrTwice}, // alike in all
		{userOf("zoe", 16, 0), api.ErrArg},
		{userOf("zoe", -1, all), api.ErrArg},
		{userOf("zoe", math.MinInt, 0), api.ErrArg},
		{userOf("zoe", math.MaxInt, 0), api.ErrArg},
		{userOf("", 16, 0), api.ErrForm}, // of several the one named first
		{userOf("a b", -1, 0), api.ErrForm},
		{userOf("a", 16, 0), api.ErrTwice},
	} {
		for n := range 16 {
			place, want := n, x.want
			if want == api.ErrTwice && n == 0 {
				want = api.OK // none stands ahead
				if x.u.Clear.Level > 15 {
					want = api.ErrArg
				}
			}
			// One that is wrong stands behind it, but for the list whose users should be right.
			l := append(goodUsers(n), x.u)
			if want == api.OK {
				place = 0
			} else {
				l = append(l, userOf("", 16, 0))
			}
			if at, got := Users(l); at != place || got != want {
				t.Errorf("Users of %d good ones and %v: %d, %d", n, x.u, at, got)
			}
		}
	}
}

func TestUsersOfMany(t *testing.T) {
	if at, got := Users(nil); at != 0 || got != api.OK {
		t.Errorf("Users of none: %d, %d", at, got)
	}
	for n := range 17 {
		if at, got := Users(goodUsers(n)); at != 0 || got != api.OK {
			t.Errorf("Users of %d good ones: %d, %d", n, at, got)
		}
	}
	for _, n := range []int{17, 18, 19, 30, 60} {
		if at, got := Users(goodUsers(n)); at != 16 || got != api.ErrFull {
			t.Errorf("Users of %d good ones: %d, %d", n, at, got)
		}
	}
	bad := []api.User{userOf("No", 0, 0), userOf("a", 0, 0), userOf("zoe", 16, 0)}
	why := []api.Errno{api.ErrForm, api.ErrTwice, api.ErrArg}
	for i, u := range bad {
		// One that is wrong ahead of the 17th one is told, and the 17th one is one too many, whatever it is.
		for _, place := range []int{1, 2, 9, 15, 16, 17} {
			l := goodUsers(25)
			l[place] = u
			at, want := place, why[i]
			if place >= 16 {
				at, want = 16, api.ErrFull
			}
			if p, got := Users(l); p != at || got != want {
				t.Errorf("Users of 25, %v at %d: %d, %d", u, place, p, got)
			}
		}
	}
}

func TestTheFirstWrongUserIsTold(t *testing.T) {
	form, twice, arg := userOf("", 0, 0), userOf("a", 0, 0), userOf("zoe", 16, 0)
	for _, x := range []struct {
		l    []api.User
		at   int
		want api.Errno
	}{
		{[]api.User{arg, form}, 0, api.ErrArg},
		{[]api.User{form, arg}, 0, api.ErrForm},
		{[]api.User{form, form}, 0, api.ErrForm}, // the second one is twice, but behind
		{[]api.User{twice, arg, form}, 1, api.ErrArg},
		{[]api.User{twice, twice, form}, 1, api.ErrTwice},
		{[]api.User{twice, userOf("b", 0, 0), userOf("b", 0, 0), twice}, 2, api.ErrTwice}, // the one behind is told, not the one whose name it has
		{append(goodUsers(3), twice, arg, form), 3, api.ErrTwice},
		{append(goodUsers(15), arg, form), 15, api.ErrArg},
		{append(goodUsers(15), form, arg), 15, api.ErrForm},
		{append(goodUsers(16), form, arg), 16, api.ErrFull},
	} {
		if at, got := Users(x.l); at != x.at || got != x.want {
			t.Errorf("Users(%v): %d, %d", x.l, at, got)
		}
	}
}

// TestUsersTwice asks of each pair of places.
func TestUsersTwice(t *testing.T) {
	for behind := range 16 {
		for ahead := range behind {
			l := goodUsers(16)
			l[behind].Name = l[ahead].Name
			if at, got := Users(l); at != behind || got != api.ErrTwice {
				t.Errorf("%d as %d: %d, %d", behind, ahead, at, got)
			}
		}
	}
}

func TestGrantsOfOneGrant(t *testing.T) {
	high, low := labelOf(15, all), labelOf(0, 0)
	type asked struct {
		g    api.Grant
		want api.Errno
	}
	list := []asked{
		{grantOf("a", high, low), api.OK},
		{grantOf("b", low, low), api.OK}, // From not above To is right too
		{grantOf("c", low, high), api.OK},
		{grantOf("a", labelOf(2, 1), labelOf(2, 1)), api.OK},
		{grantOf("b", labelOf(1, 1), labelOf(0, 2)), api.OK},
		{grantOf("d", high, low), api.ErrUser},
		{grantOf("", high, low), api.ErrUser},
		{grantOf("A", high, low), api.ErrUser},
		{grantOf("aa", high, low), api.ErrUser},
		{grantOf("a ", high, low), api.ErrUser},
	}
	for _, odd := range noLabels() {
		list = append(list, asked{grantOf("a", odd, low), api.ErrArg}, asked{grantOf("a", high, odd), api.ErrArg}, asked{grantOf("c", odd, odd), api.ErrArg},
			asked{grantOf("d", odd, odd), api.ErrUser}, asked{grantOf("", odd, low), api.ErrUser}) // of several the one named first
	}
	for _, x := range list {
		for n := range 32 {
			place := n
			l := append(goodGrants(n, 3), x.g)
			if x.want == api.OK {
				place = 0
			} else {
				l = append(l, grantOf("nobody", labelOf(16, 0), labelOf(16, 0)), grantOf("a", labelOf(16, 0), low))
			}
			if at, got := Grants(l, goodUsers(3)); at != place || got != x.want {
				t.Errorf("Grants of %d good ones and %v: %d, %d", n, x.g, at, got)
			}
		}
	}
}

func TestGrantsOfMany(t *testing.T) {
	users := goodUsers(16)
	for n := range 33 {
		if at, got := Grants(goodGrants(n, 16), users); at != 0 || got != api.OK {
			t.Errorf("Grants of %d good ones: %d, %d", n, at, got)
		}
	}
	for _, n := range []int{33, 34, 35, 60, 99} {
		if at, got := Grants(goodGrants(n, 16), users); at != 32 || got != api.ErrFull {
			t.Errorf("Grants of %d good ones: %d, %d", n, at, got)
		}
	}
	bad := []api.Grant{grantOf("nobody", labelOf(1, 0), labelOf(0, 0)), grantOf("a", labelOf(16, 0), labelOf(0, 0)), grantOf("a", labelOf(1, 0), labelOf(-1, 0))}
	why := []api.Errno{api.ErrUser, api.ErrArg, api.ErrArg}
	for i, g := range bad {
		// One that is wrong ahead of the 33rd one is told, and the 33rd one is one too many, whatever it is.
		for _, place := range []int{0, 1, 17, 31, 32, 33} {
			l := goodGrants(40, 16)
			l[place] = g
			at, want := place, why[i]
			if place >= 32 {
				at, want = 32, api.ErrFull
			}
			if p, got := Grants(l, users); p != at || got != want {
				t.Errorf("Grants of 40, %v at %d: %d, %d", g, place, p, got)
			}
		}
	}
}

// TestGrantsOfAnyUsers asks whether there is such a user, and no more: users may be wrong, or too many.
func TestGrantsOfAnyUsers(t *testing.T) {
	one := func(user string) []api.Grant { return []api.Grant{grantOf(user, labelOf(1, 0), labelOf(0, 0))} }
	odd := []api.User{userOf("", 16, 0), userOf("No name", -1, 0), userOf("ann", 1, 0), userOf("ann", 2, 0)}
	for _, x := range []struct {
		user  string
		users []api.User
		want  api.Errno
	}{
		{"ann", nil, api.ErrUser},
		{"ann", []api.User{}, api.ErrUser},
		{"", nil, api.ErrUser},
		{"", odd, api.OK},
		{"No name", odd, api.OK},
		{"ann", odd, api.OK},
		{"ann", odd[:2], api.ErrUser},
		{"no name", odd, api.ErrUser},
		{"w1", goodUsers(60), api.OK},
		{"w1", goodUsers(48), api.ErrUser},
	} {
		if at, got := Grants(one(x.user), x.users); at != 0 || got != x.want {
			t.Errorf("Grants of %q, users %v: %d, %d", x.user, x.users, at, got)
		}
	}
	for _, users := range [][]api.User{nil, {}, odd} {
		for _, none := range [][]api.Grant{nil, {}} {
			if at, got := Grants(none, users); at != 0 || got != api.OK {
				t.Errorf("Grants of none, users %v: %d, %d", users, at, got)
			}
		}
	}
	if at, got := Grants(append(goodGrants(4, 3), one("d")...), goodUsers(2)); at != 2 || got != api.ErrUser {
		t.Errorf("the first one without a user: %d, %d", at, got)
	}
}

func TestTheFirstWrongGrantIsTold(t *testing.T) {
	user, arg := grantOf("nobody", labelOf(1, 0), labelOf(0, 0)), grantOf("a", labelOf(1, 0), labelOf(16, 0))
	for _, x := range []struct {
		l    []api.Grant
		at   int
		want api.Errno
	}{
		{[]api.Grant{arg, user}, 0, api.ErrArg},
		{[]api.Grant{user, arg}, 0, api.ErrUser},
		{append(goodGrants(3, 3), arg, user), 3, api.ErrArg},
		{append(goodGrants(3, 3), user, arg), 3, api.ErrUser},
		{append(goodGrants(31, 3), arg, user), 31, api.ErrArg},
		{append(goodGrants(32, 3), user, arg), 32, api.ErrFull},
		{append(append(goodGrants(1, 3), user), goodGrants(40, 3)...), 1, api.ErrUser},
	} {
		if at, got := Grants(x.l, goodUsers(3)); at != x.at || got != x.want {
			t.Errorf("Grants(%v): %d, %d", x.l, at, got)
		}
	}
	// One grant may be there twice.
	if at, got := Grants(append(goodGrants(3, 3), goodGrants(3, 3)...), goodUsers(3)); at != 0 || got != api.OK {
		t.Errorf("Grants of alike ones: %d, %d", at, got)
	}
}

func TestUsersAndGrantsStayAsTheyAre(t *testing.T) {
	users := append(goodUsers(9), userOf("a", 16, 1), userOf("", 2, 2), userOf("spare", 3, 3))
	grants := append(someGrants(), grantOf("spare", labelOf(3, 3), labelOf(1, 1)))
	wantUsers, wantGrants := slices.Clone(users), slices.Clone(grants)
	l, g := users[:11], grants[:8]
	for _, at := range append(smallLabels(), oddLabels()...) {
		for _, name := range []string{"a", "ann", "bob", ""} {
			Find(l, name)
			Acts(l, name, at)
			Lowers(g, name, at, labelOf(0, 0))
		}
		Leaks(g, at)
		Holders(g, at)
	}
	Users(l)
	Grants(g, l)
	if !slices.Equal(users, wantUsers) || !slices.Equal(grants, wantGrants) {
		t.Errorf("the users are %v, the grants %v", users, grants)
	}
}

// P6.4

// TestWhoLowersHoldsAGrantThatLeaks asks of all labels: what somebody lowers from not at or below a label to at or below it, they hold a grant to.
func TestWhoLowersHoldsAGrantThatLeaks(t *testing.T) {
	labels := append(smallLabels(), labelOf(16, 1), labelOf(-1, 0))
	lowered := 0
	for _, l := range grantLists() {
		for _, from := range labels {
			for _, to := range labels {
				for _, user := range []string{"ann", "bob", "eve", ""} {
					if !Lowers(l, user, from, to) {
						continue
					}
					for _, at := range labels {
						if isBelow(from, at) || !isBelow(to, at) {
							continue
						}
						lowered++
						if !Leaks(l, at) || !slices.Contains(Holders(l, at), user) {
							t.Fatalf("%q lowers %v to %v by %v, and holds none that leaks to %v", user, from, to, l, at)
						}
					}
				}
			}
		}
	}
	if lowered == 0 {
		t.Error("nothing was lowered")
	}
}

// TestWhoHoldsAGrantThatLeaksLowers is the other way: a grant that leaks lowers its own From to its own To.
func TestWhoHoldsAGrantThatLeaksLowers(t *testing.T) {
	labels := append(smallLabels(), oddLabels()...)
	for _, l := range grantLists() {
		for _, at := range labels {
			for _, user := range Holders(l, at) {
				held := slices.ContainsFunc(l, func(g api.Grant) bool {
					return g.User == user && !isBelow(g.From, at) && isBelow(g.To, at) && Lowers(l, user, g.From, g.To)
				})
				if !held {
					t.Fatalf("%q holds none of %v that leaks to %v", user, l, at)
				}
			}
		}
	}
}
