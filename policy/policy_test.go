package policy

import (
	"fmt"
	"math"
	"math/rand"
	"reflect"
	"regexp"
	"slices"
	"strconv"
	"strings"
	"testing"

	"oculus/api"
	"oculus/label"
	"oculus/span"
)

const all = uint64(math.MaxUint64)

// labelOf is a label of a level and categories.
func labelOf(level int, cats uint64) api.Label { return api.Label{Level: level, Cats: cats} }

// zoneOf is a zone from one row and column to others, of a level.
func zoneOf(row, col, toRow, toCol, level int) api.Zone {
	return api.Zone{Span: api.Span{From: api.Cell{Row: row, Col: col}, To: api.Cell{Row: toRow, Col: toCol}}, Label: labelOf(level, 0)}
}

// userOf is a user of a name and a level.
func userOf(name string, level int) api.User {
	return api.User{Name: name, Clear: labelOf(level, 0)}
}

// grantOf is a grant of a user, from a level to another one.
func grantOf(user string, from, to int) api.Grant {
	return api.Grant{User: user, From: labelOf(from, 0), To: labelOf(to, 0)}
}

// gridOf is a policy of rows and columns alone.
func gridOf(rows, cols int) api.Policy { return api.Policy{Rows: rows, Cols: cols} }

// manyZones is so many zones that are right in a grid of 3 rows and 4 columns.
func manyZones(n int) []api.Zone {
	l := []api.Zone{}
	for i := range n {
		l = append(l, zoneOf(i%3, i%4, 2, 3, i%16))
	}
	return l
}

// manyUsers is so many users that are right, each of an own name: a, b, c.
func manyUsers(n int) []api.User {
	l := []api.User{}
	for i := range n {
		l = append(l, userOf(string(rune('a'+i%26))+strings.Repeat("9", i/26), i%16))
	}
	return l
}

// manyGrants is so many grants that are right, if there is a user a.
func manyGrants(n int) []api.Grant {
	l := []api.Grant{}
	for i := range n {
		l = append(l, grantOf("a", i%16, (i+5)%16))
	}
	return l
}

// manyOf is a policy that is right, of so many zones, users and grants.
func manyOf(zones, users, grants int) api.Policy {
	return api.Policy{Rows: 3, Cols: 4, Zones: manyZones(zones), Users: manyUsers(users), Grants: manyGrants(grants)}
}

// alike tells whether two policies are alike, whether or not a list without an element is nil.
func alike(a, b api.Policy) bool {
	return a.Rows == b.Rows && a.Cols == b.Cols && slices.Equal(a.Zones, b.Zones) && slices.Equal(a.Users, b.Users) && slices.Equal(a.Grants, b.Grants)
}

// isZero tells whether a policy is the zero one.
func isZero(p api.Policy) bool { return alike(p, api.Policy{}) }

// labelMay, spanMay and nameMay are the document's words on labels, straight spans in a grid and users' names.
func labelMay(l api.Label) bool { return l.Level >= 0 && l.Level <= 15 }

func spanMay(s api.Span) bool {
	return s.From.Row >= 0 && s.From.Row <= s.To.Row && s.To.Row < 999 && s.From.Col >= 0 && s.From.Col <= s.To.Col && s.To.Col < 702
}

var nameForm = regexp.MustCompile(`^[a-z][a-z0-9]{0,15}$`)

// wrongByWords is the document's word on what is wrong with a policy.
func wrongByWords(p api.Policy) (int, api.Errno) {
	if p.Rows < 1 || p.Rows > 999 || p.Cols < 1 || p.Cols > 702 || p.Rows*p.Cols > 400 {
		return 1, api.ErrRange
	}
	line := 1
	for i, z := range p.Zones {
		line++
		switch {
		case i == 32:
			return line, api.ErrFull
		case !spanMay(z.Span):
			return line, api.ErrForm
		case z.Span.To.Row >= p.Rows || z.Span.To.Col >= p.Cols:
			return line, api.ErrRange
		case !labelMay(z.Label):
			return line, api.ErrArg
		}
	}
	for i, u := range p.Users {
		line++
		switch {
		case i == 16:
			return line, api.ErrFull
		case !nameForm.MatchString(u.Name):
			return line, api.ErrForm
		case slices.ContainsFunc(p.Users[:i], func(v api.User) bool { return v.Name == u.Name }):
			return line, api.ErrTwice
		case !labelMay(u.Clear):
			return line, api.ErrArg
		}
	}
	for i, g := range p.Grants {
		line++
		switch {
		case i == 32:
			return line, api.ErrFull
		case !slices.ContainsFunc(p.Users, func(u api.User) bool { return u.Name == g.User }):
			return line, api.ErrUser
		case !labelMay(g.From) || !labelMay(g.To):
			return line, api.ErrArg
		}
	}
	return 0, api.OK
}

// The forms of lines, and of all kinds of lines in a row (by the first letters, but r of a grant).
var (
	gridForm  = regexp.MustCompile(`^grid ([1-9][0-9]?[0-9]?) ([1-9][0-9]?[0-9]?)\n$`)
	zoneForm  = regexp.MustCompile(`^zone ([A-Z0-9:]+) ([0-9a-z:,]+)\n$`)
	userForm  = regexp.MustCompile(`^user ([^ \n]*) ([0-9a-z:,]+)\n$`)
	grantForm = regexp.MustCompile(`^grant ([^ \n]*) ([0-9a-z:,]+) ([0-9a-z:,]+)\n$`)
	kindsForm = regexp.MustCompile(`^gz*u*r*$`)
)

// numberOf is the number of decimal digits.
func numberOf(t string) int {
	n, _ := strconv.Atoi(t)
	return n
}

// readByWords adds a line to a policy, and is the letter of its kind; ? if it is of none.
func readByWords(p *api.Policy, line string) string {
	if m := gridForm.FindStringSubmatch(line); m != nil {
		p.Rows, p.Cols = numberOf(m[1]), numberOf(m[2])
		return "g"
	}
	if m := zoneForm.FindStringSubmatch(line); m != nil {
		s, isSpan := span.Parse(m[1])
		l, isLabel := label.Parse(m[2])
		if isSpan && isLabel {
			p.Zones = append(p.Zones, api.Zone{Span: s, Label: l})
			return "z"
		}
	}
	if m := userForm.FindStringSubmatch(line); m != nil {
		if l, ok := label.Parse(m[2]); ok {
			p.Users = append(p.Users, api.User{Name: m[1], Clear: l})
			return "u"
		}
	}
	if m := grantForm.FindStringSubmatch(line); m != nil {
		from, isFrom := label.Parse(m[2])
		to, isTo := label.Parse(m[3])
		if isFrom && isTo {
			p.Grants = append(p.Grants, api.Grant{User: m[1], From: from, To: to})
			return "r"
		}
	}
	return "?"
}

// parseByWords is the document's word on what a text tells.
func parseByWords(s string) (api.Policy, int, api.Errno) {
	if len(s) > 4000 {
		return api.Policy{}, 0, api.ErrLong
	}
	p, kinds := api.Policy{}, ""
	for i, line := range strings.SplitAfter(s, "\n") {
		if line == "" && i > 0 {
			break // behind the last line feed there is no line
		}
		kinds += readByWords(&p, line)
		if !kindsForm.MatchString(kinds) {
			return api.Policy{}, i + 1, api.ErrForm
		}
	}
	if line, e := wrongByWords(p); e != api.OK {
		return api.Policy{}, line, e
	}
	return p, 0, api.OK
}

// hold asks Parse of a text, and holds the answer against the document's words.
func hold(t *testing.T, s string) {
	t.Helper()
	p, line, e := Parse(s)
	wantP, wantLine, want := parseByWords(s)
	if line != wantLine || e != want || !alike(p, wantP) {
		t.Fatalf("Parse(%q): %v, %d, %d, not %v, %d, %d", s, p, line, e, wantP, wantLine, want)
	}
	if e == api.OK && Text(p) != s {
		t.Fatalf("what is read of %q is told as %q", s, Text(p))
	}
}

// ask asks Parse of a text that tells no policy.
func ask(t *testing.T, s string, line int, want api.Errno) {
	t.Helper()
	if p, at, got := Parse(s); at != line || got != want || !isZero(p) {
		t.Errorf("Parse(%q): %v, %d, %d, not %d, %d", s, p, at, got, line, want)
	}
}

// P7.1

func TestWrongOfGrids(t *testing.T) {
	for _, x := range []struct {
		rows, cols int
		want       api.Errno
	}{
		{1, 1, api.OK}, {20, 20, api.OK}, {400, 1, api.OK}, {1, 400, api.OK}, {200, 2, api.OK}, {2, 200, api.OK}, {16, 25, api.OK}, {25, 16, api.OK}, {133, 3, api.OK}, {19, 21, api.OK},
		{401, 1, api.ErrRange}, {1, 401, api.ErrRange}, {201, 2, api.ErrRange}, {2, 201, api.ErrRange}, {20, 21, api.ErrRange}, {21, 20, api.ErrRange}, {134, 3, api.ErrRange}, {3, 134, api.ErrRange},
		{999, 1, api.ErrRange}, {1000, 1, api.ErrRange}, {1, 702, api.ErrRange}, {1, 703, api.ErrRange}, {999, 702, api.ErrRange},
		{0, 0, api.ErrRange}, {0, 1, api.ErrRange}, {1, 0, api.ErrRange}, {0, 400, api.ErrRange}, {400, 0, api.ErrRange},
		{-1, 1, api.ErrRange}, {1, -1, api.ErrRange}, {-1, -1, api.ErrRange}, {-20, -20, api.ErrRange}, {-400, 1, api.ErrRange},
		// The products leave what a number may be, and are small ones again.
		{1 << 32, 1 << 32, api.ErrRange}, {1 << 62, 4, api.ErrRange}, {4, 1 << 62, api.ErrRange}, {1 << 63 / 2, 2, api.ErrRange}, {math.MinInt, 2, api.ErrRange}, {2, math.MinInt, api.ErrRange}, {math.MinInt, math.MinInt, api.ErrRange}, {math.MaxInt, math.MaxInt, api.ErrRange}, {1<<32 + 1, 1, api.ErrRange}, {1, 1<<32 + 1, api.ErrRange}, {1 << 32, 1, api.ErrRange},
		{math.MinInt, 0, api.ErrRange}, {0, math.MaxInt, api.ErrRange}, {-1, math.MinInt, api.ErrRange}, {math.MaxInt, -1, api.ErrRange},
	} {
		line := 0
		if x.want != api.OK {
			line = 1
		}
		if at, got := Wrong(gridOf(x.rows, x.cols)); at != line || got != x.want {
			t.Errorf("Wrong of %d, %d: %d, %d", x.rows, x.cols, at, got)
		}
		// What else is wrong is told behind the grid.
		p := gridOf(x.rows, x.cols)
		p.Zones, p.Users, p.Grants = []api.Zone{zoneOf(1, 0, 0, 0, 16)}, []api.User{userOf("", 16)}, []api.Grant{grantOf("", 16, 16)}
		if at, got := Wrong(p); x.want != api.OK && (at != 1 || got != api.ErrRange) {
			t.Errorf("Wrong of %d, %d, and more that is wrong: %d, %d", x.rows, x.cols, at, got)
		}
	}
}

// TestWrongOfEachGrid goes through all rows and columns that are few, and some beyond.
func TestWrongOfEachGrid(t *testing.T) {
	for rows := -3; rows <= 1005; rows++ {
		for cols := -3; cols <= 710; cols++ {
			line, want := wrongByWords(gridOf(rows, cols))
			if at, got := Wrong(gridOf(rows, cols)); at != line || got != want {
				t.Fatalf("Wrong of %d, %d: %d, %d", rows, cols, at, got)
			}
		}
	}
}

func TestZeroPolicyIsWrong(t *testing.T) {
	if at, got := Wrong(api.Policy{}); at != 1 || got != api.ErrRange {
		t.Errorf("Wrong of the zero policy: %d, %d", at, got)
	}
	if Text(api.Policy{}) != "" || In(api.Policy{}, api.Cell{}) {
		t.Error("the zero policy has a text, or a cell")
	}
}

func TestWrongOfGoodOnes(t *testing.T) {
	for _, zones := range []int{0, 1, 2, 31, 32} {
		for _, users := range []int{1, 2, 15, 16} {
			for _, grants := range []int{0, 1, 2, 31, 32} {
				if at, got := Wrong(manyOf(zones, users, grants)); at != 0 || got != api.OK {
					t.Errorf("Wrong of %d zones, %d users, %d grants: %d, %d", zones, users, grants, at, got)
				}
			}
		}
		if at, got := Wrong(manyOf(zones, 0, 0)); at != 0 || got != api.OK {
			t.Errorf("Wrong of %d zones: %d, %d", zones, at, got)
		}
		if at, got := Wrong(manyOf(zones, 0, 1)); at != zones+2 || got != api.ErrUser {
			t.Errorf("Wrong of %d zones, and a grant of nobody: %d, %d", zones, at, got)
		}
	}
	if at, got := Wrong(api.Policy{Rows: 3, Cols: 4, Zones: []api.Zone{}, Users: []api.User{}, Grants: []api.Grant{}}); at != 0 || got != api.OK {
		t.Errorf("Wrong of lists without an element: %d, %d", at, got)
	}
}

// TestWrongLines lays what is wrong at each place, and asks for the line.
func TestWrongLines(t *testing.T) {
	zones := []struct {
		z    api.Zone
		want api.Errno
	}{
		{zoneOf(1, 0, 0, 0, 0), api.ErrForm}, {zoneOf(0, 1, 0, 0, 0), api.ErrForm}, {zoneOf(-1, 0, 0, 0, 0), api.ErrForm}, {zoneOf(0, 0, 999, 0, 0), api.ErrForm},
		{zoneOf(0, 0, 3, 0, 0), api.ErrRange}, {zoneOf(0, 0, 0, 4, 0), api.ErrRange}, {zoneOf(0, 0, 2, 3, 16), api.ErrArg}, {zoneOf(0, 0, 2, 3, -1), api.ErrArg}, {zoneOf(0, 0, 3, 0, 16), api.ErrRange},
	}
	users := []struct {
		u    api.User
		want api.Errno
	}{
		{userOf("", 0), api.ErrForm}, {userOf("Ann", 0), api.ErrForm}, {userOf("9", 0), api.ErrForm}, {userOf("a b", 0), api.ErrForm}, {userOf("abcdefghijklmnopq", 0), api.ErrForm}, {userOf("a\n", 0), api.ErrForm},
		{userOf("zz", 16), api.ErrArg}, {userOf("zz", -1), api.ErrArg},
	}
	grants := []struct {
		g    api.Grant
		want api.Errno
	}{
		{grantOf("zz", 1, 0), api.ErrUser}, {grantOf("", 1, 0), api.ErrUser}, {grantOf("zz", 16, 0), api.ErrUser}, {grantOf("a", 16, 0), api.ErrArg}, {grantOf("a", 0, -1), api.ErrArg},
	}
	for _, n := range []int{0, 1, 2, 7, 31} {
		for _, x := range zones {
			p := manyOf(n, 3, 3)
			p.Zones = append(p.Zones, x.z)
			if at, got := Wrong(p); at != 2+n || got != x.want {
				t.Errorf("%v behind %d zones: %d, %d", x.z, n, at, got)
			}
		}
		for _, m := range []int{0, 1, 2, 15} {
			for _, x := range users {
				p := manyOf(n, m, 3)
				p.Users = append(p.Users, x.u)
				if at, got := Wrong(p); at != 2+n+m || got != x.want {
					t.Errorf("%v behind %d zones, %d users: %d, %d", x.u, n, m, at, got)
				}
			}
			for _, x := range grants {
				for _, k := range []int{0, 1, 5, 31} {
					p := manyOf(n, m+1, k)
					p.Grants = append(p.Grants, x.g)
					if at, got := Wrong(p); at != 2+n+m+1+k || got != x.want {
						t.Errorf("%v behind %d zones, %d users, %d grants: %d, %d", x.g, n, m+1, k, at, got)
					}
				}
			}
		}
	}
}

func TestWrongOfTooMany(t *testing.T) {
	for _, x := range []struct {
		zones, users, grants int
		line                 int
	}{
		{33, 16, 32, 34}, {40, 16, 32, 34}, {32, 17, 32, 50}, {32, 30, 32, 50}, {32, 16, 33, 82}, {32, 16, 50, 82},
		{33, 17, 33, 34}, {32, 17, 33, 50}, {0, 17, 0, 18}, {0, 1, 33, 35}, {33, 0, 0, 34}, {5, 2, 33, 41},
	} {
		if at, got := Wrong(manyOf(x.zones, x.users, x.grants)); at != x.line || got != api.ErrFull {
			t.Errorf("Wrong of %d zones, %d users, %d grants: %d, %d", x.zones, x.users, x.grants, at, got)
		}
	}
	// What is wrong ahead is told, even if there are too many behind.
	p := manyOf(40, 40, 40)
	p.Zones[31] = zoneOf(0, 0, 3, 0, 0)
	if at, got := Wrong(p); at != 33 || got != api.ErrRange {
		t.Errorf("the zone with the place 31: %d, %d", at, got)
	}
	p = manyOf(2, 40, 40)
	p.Users[15].Name = "a"
	if at, got := Wrong(p); at != 19 || got != api.ErrTwice {
		t.Errorf("the user with the place 15: %d, %d", at, got)
	}
	p = manyOf(2, 3, 40)
	p.Grants[31].User = "d"
	if at, got := Wrong(p); at != 38 || got != api.ErrUser {
		t.Errorf("the grant with the place 31: %d, %d", at, got)
	}
}

// TestTheFirstWrongLineIsTold asks of policies in which zones, users and grants are wrong in turn.
func TestTheFirstWrongLineIsTold(t *testing.T) {
	for bits := range 64 {
		p := manyOf(2, 2, 2)
		for i := range 2 {
			if bits>>i&1 != 0 {
				p.Zones[i].Label.Level = 16
			}
			if bits>>(2+i)&1 != 0 {
				p.Users[i].Clear.Level = 16
			}
			if bits>>(4+i)&1 != 0 {
				p.Grants[i].To.Level = 16
			}
		}
		line, want := 0, api.OK
		for i := range 6 {
			if bits>>i&1 != 0 {
				line, want = 2+i, api.ErrArg
				break
			}
		}
		if at, got := Wrong(p); at != line || got != want {
			t.Errorf("Wrong of %06b: %d, %d", bits, at, got)
		}
	}
}

func TestIn(t *testing.T) {
	for _, x := range []struct {
		rows, cols, row, col int
		want                 bool
	}{
		{1, 1, 0, 0, true}, {1, 1, 1, 0, false}, {1, 1, 0, 1, false}, {1, 1, -1, 0, false}, {1, 1, 0, -1, false},
		{3, 4, 2, 3, true}, {3, 4, 2, 4, false}, {3, 4, 3, 3, false}, {3, 4, 3, 2, false}, {3, 4, 0, 3, true}, {3, 4, 2, 0, true},
		{400, 1, 399, 0, true}, {400, 1, 400, 0, false}, {1, 400, 0, 399, true}, {1, 400, 0, 400, false},
		{3, 4, math.MinInt, 0, false}, {3, 4, 0, math.MinInt, false}, {3, 4, math.MaxInt, 0, false}, {3, 4, 0, math.MaxInt, false}, {3, 4, 1 << 32, 1 << 32, false},
		// The grid is asked, whether or not it may be.
		{0, 0, 0, 0, false}, {0, 5, 0, 0, false}, {5, 0, 0, 0, false}, {-1, 5, 0, 0, false}, {5, -1, 0, 0, false}, {-1, -1, -1, -1, false}, {-3, -3, -5, -5, false},
		{math.MinInt, 5, 0, 0, false}, {5, math.MinInt, 0, 0, false}, {math.MinInt, math.MinInt, math.MaxInt, math.MaxInt, false}, {math.MinInt, 5, math.MaxInt, 0, false},
		{1000, 703, 999, 702, true}, {1000, 703, 1000, 702, false}, {math.MaxInt, math.MaxInt, math.MaxInt - 1, math.MaxInt - 1, true}, {math.MaxInt, math.MaxInt, math.MaxInt, 0, false}, {math.MaxInt, math.MaxInt, 0, math.MaxInt, false},
	} {
		if got := In(gridOf(x.rows, x.cols), api.Cell{Row: x.row, Col: x.col}); got != x.want {
			t.Errorf("In(%d, %d), %d, %d: %v", x.rows, x.cols, x.row, x.col, got)
		}
	}
	for rows := range 5 {
		for cols := range 5 {
			p := gridOf(rows, cols)
			p.Zones = []api.Zone{zoneOf(0, 0, 9, 9, 0)} // zones ask nothing of it
			for row := -2; row < 7; row++ {
				for col := -2; col < 7; col++ {
					want := row >= 0 && row <= rows-1 && col >= 0 && col <= cols-1
					if got := In(p, api.Cell{Row: row, Col: col}); got != want {
						t.Errorf("In(%d, %d), %d, %d: %v", rows, cols, row, col, got)
					}
				}
			}
		}
	}
}

// P7.2

// mixed is a policy with some of all, and its text.
func mixed() (api.Policy, string) {
	return api.Policy{
		Rows: 10, Cols: 30,
		Zones: []api.Zone{
			{Span: api.Span{From: api.Cell{Row: 1, Col: 0}, To: api.Cell{Row: 2, Col: 1}}, Label: labelOf(2, 1)},
			{Span: api.Span{From: api.Cell{Row: 9, Col: 27}, To: api.Cell{Row: 9, Col: 27}}, Label: labelOf(15, all)},
			{Span: api.Span{From: api.Cell{Row: 0, Col: 0}, To: api.Cell{Row: 9, Col: 29}}, Label: labelOf(0, 0)},
		},
		Users: []api.User{
			{Name: "zoe", Clear: labelOf(15, all)}, {Name: "a", Clear: labelOf(0, 0)}, {Name: "abcdefghijklmno9", Clear: labelOf(0, 1<<63|1<<12|2)},
		},
		Grants: []api.Grant{
			{User: "a", From: labelOf(15, all), To: labelOf(0, 0)}, {User: "zoe", From: labelOf(0, 0), To: labelOf(15, all&^1)}, {User: "a", From: labelOf(15, all), To: labelOf(0, 0)},
		},
	}, "grid 10 30\n" +
		"zone A2:B3 2:0\nzone AB10 top\nzone A1:AD10 0\n" +
		"user zoe top\nuser a 0\nuser abcdefghijklmno9 0:1,12,63\n" +
		"grant a top 0\ngrant zoe 0 15:1,2,3,4,5,6,7,8,9,10,11,12,13,14,15,16,17,18,19,20,21,22,23,24,25,26,27,28,29,30,31,32,33,34,35,36,37,38,39,40,41,42,43,44,45,46,47,48,49,50,51,52,53,54,55,56,57,58,59,60,61,62,63\ngrant a top 0\n"
}

// told is policies that are right, with their texts.
func told() map[string]api.Policy {
	m := map[string]api.Policy{
		"grid 1 1\n":                gridOf(1, 1),
		"grid 400 1\n":              gridOf(400, 1),
		"grid 1 400\n":              gridOf(1, 400),
		"grid 20 20\n":              gridOf(20, 20),
		"grid 10 9\nzone A1 0\n":    {Rows: 10, Cols: 9, Zones: []api.Zone{zoneOf(0, 0, 0, 0, 0)}},
		"grid 1 1\nuser ann 3\n":    {Rows: 1, Cols: 1, Users: []api.User{userOf("ann", 3)}},
		"grid 2 2\nzone A1:A2 15\n": {Rows: 2, Cols: 2, Zones: []api.Zone{zoneOf(0, 0, 1, 0, 15)}},
		"grid 2 2\nzone B2 1\nzone B2 1\nuser b 0\nuser a 1\ngrant a 1 0\ngrant b 0 1\n": {
			Rows: 2, Cols: 2, Zones: []api.Zone{zoneOf(1, 1, 1, 1, 1), zoneOf(1, 1, 1, 1, 1)}, Users: []api.User{userOf("b", 0), userOf("a", 1)}, Grants: []api.Grant{grantOf("a", 1, 0), grantOf("b", 0, 1)}},
		"grid 1 1\nuser grid 0\nuser zone 1\nuser user 2\nuser grant 3\ngrant grant 3 0\ngrant user 2 2\n": {
			Rows: 1, Cols: 1, Users: []api.User{userOf("grid", 0), userOf("zone", 1), userOf("user", 2), userOf("grant", 3)}, Grants: []api.Grant{grantOf("grant", 3, 0), grantOf("user", 2, 2)}},
	}
	p, s := mixed()
	m[s] = p
	return m
}

func TestText(t *testing.T) {
	for s, p := range told() {
		if got := Text(p); got != s {
			t.Errorf("Text(%v): %q, not %q", p, got, s)
		}
	}
}

func TestTextOfWrongOnes(t *testing.T) {
	bad := []api.Policy{gridOf(0, 1), gridOf(1, 0), gridOf(401, 1), gridOf(1, 401), gridOf(-1, -1), gridOf(999, 702), gridOf(1<<32, 1<<32), manyOf(33, 1, 1), manyOf(1, 17, 1), manyOf(1, 1, 33), manyOf(1, 0, 1)}
	zone, user, twice, grant, from, to := manyOf(3, 3, 3), manyOf(3, 3, 3), manyOf(3, 3, 3), manyOf(3, 3, 3), manyOf(3, 3, 3), manyOf(3, 3, 3)
	zone.Zones[2].Span.To.Row = 3
	user.Users[2].Name = "a b"
	twice.Users[2].Name = "a"
	grant.Grants[2].User = "d"
	from.Grants[2].From.Level = 16
	to.Grants[2].To.Level = -1
	for _, p := range append(bad, zone, user, twice, grant, from, to) {
		if _, e := Wrong(p); e == api.OK || Text(p) != "" {
			t.Errorf("Text(%v): %q", p, Text(p))
		}
	}
}

// TestTextOfMany counts lines, and asks each for its words.
func TestTextOfMany(t *testing.T) {
	p := manyOf(32, 16, 32)
	lines := strings.Split(Text(p), "\n")
	if len(lines) != 82 || lines[81] != "" || lines[0] != "grid 3 4" {
		t.Fatalf("Text(%v): %q", p, lines)
	}
	for i, z := range p.Zones {
		if want := "zone " + span.Text(z.Span) + " " + label.Text(z.Label); lines[1+i] != want {
			t.Errorf("line %d: %q, not %q", 2+i, lines[1+i], want)
		}
	}
	for i, u := range p.Users {
		if want := "user " + u.Name + " " + strconv.Itoa(u.Clear.Level); lines[33+i] != want {
			t.Errorf("line %d: %q, not %q", 34+i, lines[33+i], want)
		}
	}
	for i, g := range p.Grants {
		if want := fmt.Sprintf("grant %s %d %d", g.User, g.From.Level, g.To.Level); lines[49+i] != want {
			t.Errorf("line %d: %q, not %q", 50+i, lines[49+i], want)
		}
	}
}

// TestTextLongerThanTexts asks of a policy whose lines are too many bytes to be read: nothing is wrong with it, and so it is told.
func TestTextLongerThanTexts(t *testing.T) {
	p := manyOf(32, 16, 32)
	for i := range p.Zones {
		p.Zones[i].Label.Cats = all &^ 1
	}
	s := Text(p)
	if len(s) <= 4000 || strings.Count(s, "\n") != 81 || !strings.HasSuffix(s, "\ngrant a 15 4\n") {
		t.Errorf("Text of %d bytes", len(s))
	}
	ask(t, s, 0, api.ErrLong)
}

// P7.3

func TestParse(t *testing.T) {
	for s, want := range told() {
		if p, line, e := Parse(s); line != 0 || e != api.OK || !alike(p, want) {
			t.Errorf("Parse(%q): %v, %d, %d", s, p, line, e)
		}
	}
}

func TestParseWrongForms(t *testing.T) {
	for _, x := range []struct {
		s    string
		line int
	}{
		{"", 1}, {"\n", 1}, {"\n\n", 1}, {" ", 1}, {" \n", 1}, {"x", 1}, {"\x00", 1}, {"\xff\n", 1}, {"\r\n", 1},
		{"grid", 1}, {"grid\n", 1}, {"grid \n", 1}, {"grid 1\n", 1}, {"grid 1 \n", 1}, {"grid  1\n", 1}, {"grid 1 1 1\n", 1}, {"grid 1 1", 1}, {"grid 1 1\r\n", 1}, {"grid 1 1\r", 1}, {"grid 1\n1\n", 1},
		{"GRID 1 1\n", 1}, {"Grid 1 1\n", 1}, {"gri 1 1\n", 1}, {"grids 1 1\n", 1}, {" grid 1 1\n", 1}, {"grid  1 1\n", 1}, {"grid 1  1\n", 1}, {"grid 1 1 \n", 1}, {"\tgrid 1 1\n", 1}, {"grid\t1 1\n", 1}, {"grid 1\t1\n", 1}, {"grid1 1\n", 1}, {"\ngrid 1 1\n", 1}, {"\xef\xbb\xbfgrid 1 1\n", 1}, {" 1 1\n", 1}, {"1 1\n", 1}, {"x 1 1\n", 1},
		{"grid 0 1\n", 1}, {"grid 1 0\n", 1}, {"grid 0 0\n", 1}, {"grid 01 1\n", 1}, {"grid 1 01\n", 1}, {"grid 001 1\n", 1}, {"grid 1 00\n", 1}, {"grid -1 1\n", 1}, {"grid 1 -1\n", 1}, {"grid +1 1\n", 1}, {"grid 1 +1\n", 1}, {"grid -0 1\n", 1},
		{"grid 1000 1\n", 1}, {"grid 1 1000\n", 1}, {"grid 0999 1\n", 1}, {"grid 1 0702\n", 1}, {"grid 1001 703\n", 1}, {"grid 9999999999999999999999 1\n", 1}, {"grid 1 18446744073709551617\n", 1}, {"grid 4294967297 1\n", 1},
		{"grid 1.0 1\n", 1}, {"grid 1e0 1\n", 1}, {"grid 0x1 1\n", 1}, {"grid 1_0 1\n", 1}, {"grid A 1\n", 1}, {"grid 1 B\n", 1}, {"grid 1, 1\n", 1}, {"grid \xd9\xa1 1\n", 1}, {"grid \xef\xbc\x91 1\n", 1},
		{"zone A1 0\n", 1}, {"user ann 0\n", 1}, {"grant ann 0 0\n", 1}, {"zone A1 0\ngrid 1 1\n", 1}, {"user ann 0\ngrid 1 1\n", 1}, {"grant ann 0 0\ngrid 1 1\n", 1}, {"user ann 0\ngrant ann 0 0\n", 1},
		{"grid 1 1\ngrid 1 1\n", 2}, {"grid 1 1\ngrid 2 2\n", 2}, {"grid 1 1\n\n", 2}, {"grid 1 1\n\nzone A1 0\n", 2}, {"grid 1 1\n ", 2}, {"grid 1 1\nzone", 2}, {"grid 1 1\n\x00", 2}, {"grid 1 1\r\nzone A1 0\n", 1},
		{"grid 1 1\nzone A1 0", 2}, {"grid 1 1\nzone A1 0\nuser ann 0", 3}, {"grid 1 1\nuser ann 0\ngrant ann 0 0", 3}, {"grid 1 1\nzone A1 0\n\n", 3}, {"grid 1 1\nzone A1 0\n\nuser ann 0\n", 3}, {"grid 1 1\nzone A1 0\ngrid 1 1\n", 3}, {"grid 1 1\nuser ann 0\ngrid 1 1\n", 3},
		{"grid 1 1\nzone\n", 2}, {"grid 1 1\nzone A1\n", 2}, {"grid 1 1\nzone A1 \n", 2}, {"grid 1 1\nzone  0\n", 2}, {"grid 1 1\nzone A1 0 0\n", 2}, {"grid 1 1\nzone 0 A1\n", 2}, {"grid 1 1\nzone A1 A1\n", 2}, {"grid 1 1\nzone 0 0\n", 2}, {"grid 1 1\nzones A1 0\n", 2}, {"grid 1 1\nZone A1 0\n", 2}, {"grid 1 1\nzone A1  0\n", 2}, {"grid 1 1\nzone A1 0 \n", 2}, {"grid 1 1\n zone A1 0\n", 2},
		{"grid 1 1\nzone a1 0\n", 2}, {"grid 1 1\nzone A0 0\n", 2}, {"grid 1 1\nzone A01 0\n", 2}, {"grid 1 1\nzone A1000 0\n", 2}, {"grid 1 1\nzone AAA1 0\n", 2}, {"grid 1 1\nzone A1:A1 0\n", 2}, {"grid 1 1\nzone A1: 0\n", 2}, {"grid 1 1\nzone :A1 0\n", 2}, {"grid 1 1\nzone A1:B1:C1 0\n", 2}, {"grid 1 1\nzone $A$1 0\n", 2}, {"grid 1 1\nzone A 0\n", 2}, {"grid 1 1\nzone 1 0\n", 2}, {"grid 1 1\nzone A1..B2 0\n", 2},
		{"grid 1 1\nzone A1 16\n", 2}, {"grid 1 1\nzone A1 -1\n", 2}, {"grid 1 1\nzone A1 00\n", 2}, {"grid 1 1\nzone A1 +0\n", 2}, {"grid 1 1\nzone A1 0:\n", 2}, {"grid 1 1\nzone A1 :0\n", 2}, {"grid 1 1\nzone A1 0:64\n", 2}, {"grid 1 1\nzone A1 0:2,1\n", 2}, {"grid 1 1\nzone A1 0:1,1\n", 2}, {"grid 1 1\nzone A1 0:1,\n", 2}, {"grid 1 1\nzone A1 Top\n", 2}, {"grid 1 1\nzone A1 TOP\n", 2}, {"grid 1 1\nzone A1 bottom\n", 2}, {"grid 1 1\nzone A1 0: 1\n", 2}, {"grid 1 1\nzone A1 0:1, 2\n", 2},
		{"grid 1 1\nuser\n", 2}, {"grid 1 1\nuser ann\n", 2}, {"grid 1 1\nuser ann \n", 2}, {"grid 1 1\nuser 0\n", 2}, {"grid 1 1\nuser ann 0 0\n", 2}, {"grid 1 1\nuser ann  0\n", 2}, {"grid 1 1\nuser  ann 0\n", 2}, {"grid 1 1\nuser ann 0 \n", 2}, {"grid 1 1\nuser ann 16\n", 2}, {"grid 1 1\nuser ann x\n", 2}, {"grid 1 1\nuser  \n", 2}, {"grid 1 1\nuser   0\n", 2}, {"grid 1 1\nusers ann 0\n", 2}, {"grid 1 1\nUser ann 0\n", 2}, {"grid 1 1\nuser a b 0\n", 2}, {"grid 1 1\nuser ann bob\n", 2}, {"grid 1 1\nuser ann\n0\n", 2},
		{"grid 1 1\nuser ann 0\ngrant\n", 3}, {"grid 1 1\nuser ann 0\ngrant ann\n", 3}, {"grid 1 1\nuser ann 0\ngrant ann 0\n", 3}, {"grid 1 1\nuser ann 0\ngrant ann 0 \n", 3}, {"grid 1 1\nuser ann 0\ngrant ann  0\n", 3}, {"grid 1 1\nuser ann 0\ngrant ann 0 0 0\n", 3}, {"grid 1 1\nuser ann 0\ngrant ann 16 0\n", 3}, {"grid 1 1\nuser ann 0\ngrant ann 0 16\n", 3}, {"grid 1 1\nuser ann 0\ngrant 0 0\n", 3}, {"grid 1 1\nuser ann 0\ngrant ann 0  0\n", 3}, {"grid 1 1\nuser ann 0\ngrant  ann 0 0\n", 3}, {"grid 1 1\nuser ann 0\ngrant ann 0 0 \n", 3}, {"grid 1 1\nuser ann 0\nGrant ann 0 0\n", 3}, {"grid 1 1\nuser ann 0\ngrants ann 0 0\n", 3}, {"grid 1 1\nuser ann 0\ngrant ann x 0\n", 3}, {"grid 1 1\nuser ann 0\ngrant ann 0 x\n", 3},
		{"grid 1 1\nuser ann 0\nzone A1 0\n", 3}, {"grid 1 1\nuser ann 0\ngrant ann 0 0\nuser bob 0\n", 4}, {"grid 1 1\nuser ann 0\ngrant ann 0 0\nzone A1 0\n", 4}, {"grid 1 1\ngrant ann 0 0\nuser ann 0\n", 3}, {"grid 1 1\ngrant ann 0 0\nzone A1 0\n", 3}, {"grid 1 1\nuser ann 0\ngrant ann 0 0\ngrid 1 1\n", 4}, {"grid 1 1\nzone A1 0\nuser ann 0\ngrant ann 0 0\nx\n", 5},
	} {
		ask(t, x.s, x.line, api.ErrForm)
		hold(t, x.s)
	}
}

// TestParseOfEachGrid goes through rows and columns at the edges, also with noughts and signs ahead.
func TestParseOfEachGrid(t *testing.T) {
	numbers := []string{"0", "1", "2", "9", "10", "20", "21", "99", "100", "133", "134", "200", "201", "399", "400", "401", "701", "702", "703", "998", "999", "1000", "1001", "9999", "4294967296", "18446744073709551617", "-1", "+1", "01", "001", "00", "0702", "0999", "1x", "x", "", "1.5", "1,0"}
	for _, rows := range numbers {
		for _, cols := range numbers {
			s := "grid " + rows + " " + cols + "\n"
			hold(t, s)
			hold(t, s+"user ann 3\n")
			if may := regexp.MustCompile(`^[1-9][0-9]?[0-9]?$`); !may.MatchString(rows) || !may.MatchString(cols) {
				ask(t, s, 1, api.ErrForm)
			} else if r, c := numberOf(rows), numberOf(cols); c > 702 || r*c > 400 {
				ask(t, s, 1, api.ErrRange)
			} else if p, line, e := Parse(s); line != 0 || e != api.OK || !alike(p, gridOf(r, c)) {
				t.Errorf("Parse(%q): %v, %d, %d", s, p, line, e)
			}
		}
	}
}

// TestParseOfAnyRowOfKinds lays lines of all kinds behind one another, up to five, in every row.
func TestParseOfAnyRowOfKinds(t *testing.T) {
	lines := []string{"grid 2 2\n", "zone A1 1\n", "user ann 3\n", "grant ann 2 1\n"}
	letters := "gzur"
	lists := []string{""}
	for size := 1; size <= 5; size++ {
		longer := []string{}
		for _, l := range lists {
			for _, k := range letters {
				longer = append(longer, l+string(k))
			}
		}
		lists = longer
		for _, kinds := range lists {
			s, wrong, users := "", 0, 0
			for i, k := range kinds {
				s += lines[strings.IndexRune(letters, k)]
				if wrong == 0 && !kindsForm.MatchString(kinds[:i+1]) {
					wrong = i + 1
				}
				if k == 'u' {
					users++
				}
			}
			switch {
			case wrong > 0:
				ask(t, s, wrong, api.ErrForm)
			case users > 1:
				ask(t, s, strings.Index(kinds, "u")+2, api.ErrTwice)
			case users == 0 && strings.Contains(kinds, "r"):
				ask(t, s, strings.Index(kinds, "r")+1, api.ErrUser)
			default:
				if _, line, e := Parse(s); line != 0 || e != api.OK {
					t.Errorf("Parse(%q): %d, %d", s, line, e)
				}
			}
			hold(t, s)
		}
	}
}

// TestParseTellsWhatWrongTells asks of lines of the right form.
func TestParseTellsWhatWrongTells(t *testing.T) {
	for _, x := range []struct {
		s    string
		line int
		want api.Errno
	}{
		{"grid 1 401\n", 1, api.ErrRange}, {"grid 401 1\n", 1, api.ErrRange}, {"grid 999 999\n", 1, api.ErrRange}, {"grid 1 703\n", 1, api.ErrRange}, {"grid 999 1\n", 1, api.ErrRange},
		{"grid 1 703\nzone B2:A1 0\nuser A 0\ngrant x 0 0\n", 1, api.ErrRange},
		{"grid 2 2\nzone B2:A1 0\n", 2, api.ErrForm}, {"grid 2 2\nzone A2:B1 0\n", 2, api.ErrForm}, {"grid 2 2\nzone B1:A2 0\n", 2, api.ErrForm}, {"grid 2 2\nzone ZZ999:A1 0\n", 2, api.ErrForm},
		{"grid 2 2\nzone A1:B3 0\n", 2, api.ErrRange}, {"grid 2 2\nzone A1:C2 0\n", 2, api.ErrRange}, {"grid 2 2\nzone ZZ999 0\n", 2, api.ErrRange}, {"grid 2 2\nzone A1:B2 0\nzone C1 0\nzone B1:A1 0\n", 3, api.ErrRange},
		{"grid 2 2\nuser  0\n", 2, api.ErrForm}, {"grid 2 2\nuser Ann 0\n", 2, api.ErrForm}, {"grid 2 2\nuser 9 0\n", 2, api.ErrForm}, {"grid 2 2\nuser abcdefghijklmnopq 0\n", 2, api.ErrForm}, {"grid 2 2\nuser a\r 0\n", 2, api.ErrForm}, {"grid 2 2\nuser \x00\xff\t 0\n", 2, api.ErrForm}, {"grid 2 2\nuser a:b,c 0\n", 2, api.ErrForm},
		{"grid 2 2\nuser ann 0\nuser ann 1\n", 3, api.ErrTwice}, {"grid 2 2\nuser ann 0\nuser bob 0\nuser ann 0\nuser Bob 0\n", 4, api.ErrTwice},
		{"grid 2 2\ngrant ann 0 0\n", 2, api.ErrUser}, {"grid 2 2\nuser ann 0\ngrant bob 0 0\n", 3, api.ErrUser}, {"grid 2 2\nuser ann 0\ngrant  0 0\n", 3, api.ErrUser}, {"grid 2 2\nuser ann 0\ngrant Ann 0 0\n", 3, api.ErrUser}, {"grid 2 2\nuser ann 0\ngrant ann\r 0 0\n", 3, api.ErrUser}, {"grid 2 2\nuser ann 0\ngrant \xff 0 0\n", 3, api.ErrUser},
		{"grid 2 2\nuser  0\ngrant  0 0\n", 2, api.ErrForm}, {"grid 2 2\nuser  0\nuser  0\n", 2, api.ErrForm},
		{"grid 2 2\nzone C1 0\nuser A 0\ngrant x 0 0\n", 2, api.ErrRange}, {"grid 2 2\nzone A1 0\nuser A 0\ngrant x 0 0\n", 3, api.ErrForm}, {"grid 2 2\nzone A1 0\nuser a 0\ngrant x 0 0\n", 4, api.ErrUser},
		// A line's form is asked first, of all lines.
		{"grid 1 401\nx\n", 2, api.ErrForm}, {"grid 1 401\ngrid 1 1\n", 2, api.ErrForm}, {"grid 2 2\nzone B2:A1 0\nzone C1 0\n\n", 4, api.ErrForm}, {"grid 2 2\nuser  0\nuser ann 16\n", 3, api.ErrForm}, {"grid 2 2\ngrant ann 0 0\nuser ann 0\n", 3, api.ErrForm}, {"grid 2 2\nuser ann 0\nuser ann 0\ngrant ann 0 0", 4, api.ErrForm}, {"grid 2 2\nuser Ann 0\nzone A1 0\n", 3, api.ErrForm},
	} {
		ask(t, x.s, x.line, x.want)
		hold(t, x.s)
	}
}

// TestParseOfTooMany reads one line too many of each kind.
func TestParseOfTooMany(t *testing.T) {
	head, zones, grants := "grid 2 2\n", strings.Repeat("zone A1 1\n", 32), strings.Repeat("grant a 1 0\n", 32)
	users := ""
	for i := range 16 {
		users += "user " + string(rune('a'+i)) + " 1\n"
	}
	hold(t, head+zones+users+grants)
	if p, line, e := Parse(head + zones + users + grants); line != 0 || e != api.OK || len(p.Zones) != 32 || len(p.Users) != 16 || len(p.Grants) != 32 {
		t.Errorf("as many as may be: %d, %d", line, e)
	}
	for _, x := range []struct {
		s    string
		line int
		want api.Errno
	}{
		{head + zones + "zone A1 1\n", 34, api.ErrFull}, {head + zones + "zone B1:A1 1\n", 34, api.ErrFull}, {head + zones + "zone A1 1\nzone A1 1\n" + users, 34, api.ErrFull},
		{head + users + "user z 1\n", 18, api.ErrFull}, {head + users + "user  1\n", 18, api.ErrFull}, {head + users + "user a 1\n", 18, api.ErrFull}, {head + zones + users + "user z 1\n" + grants, 50, api.ErrFull},
		{head + users + grants + "grant a 1 0\n", 50, api.ErrFull}, {head + users + grants + "grant z 1 0\n", 50, api.ErrFull}, {head + zones + users + grants + "grant a 1 0\n", 82, api.ErrFull},
		{head + zones + "zone A1 1\n" + users + "user z 1\n" + grants + "grant a 1 0\n", 34, api.ErrFull},
		{head + zones + "zone A1 1\nzone A1 16\n", 35, api.ErrForm}, {head + users + "user z 1\nzone A1 1\n", 19, api.ErrForm}, {head + users + grants + "grant a 1 0\nuser z 1\n", 51, api.ErrForm},
	} {
		ask(t, x.s, x.line, x.want)
		hold(t, x.s)
	}
}

// lineOf is a user's line of so many bytes.
func lineOf(t *testing.T, size int) string {
	t.Helper()
	for name := 1; name <= 16; name++ {
		for n := range 64 {
			line := "user " + strings.Repeat("n", name) + " " + label.Text(labelOf(1, 1<<n-1)) + "\n"
			if len(line) == size {
				return line
			}
		}
	}
	t.Fatalf("no line of %d bytes", size)
	return ""
}

// longText is a text of so many bytes that tells a policy.
func longText(t *testing.T, size int) string {
	t.Helper()
	s, long := "grid 1 1\n", "zone A1 1:"+strings.TrimPrefix(label.Text(labelOf(0, all)), "0:")+"\n"
	for size-len(s) > 200 {
		s += long
	}
	return s + lineOf(t, size-len(s))
}

func TestParseOfLongTexts(t *testing.T) {
	for _, size := range []int{3990, 3998, 3999, 4000} {
		s := longText(t, size)
		p, line, e := Parse(s)
		if len(s) != size || line != 0 || e != api.OK || Text(p) != s {
			t.Errorf("Parse of %d bytes: %d, %d", len(s), line, e)
		}
		hold(t, s)
	}
	for _, size := range []int{4001, 4002, 4100, 8000} {
		hold(t, longText(t, size))
		ask(t, longText(t, size), 0, api.ErrLong)
	}
	// How long a text is is asked first of all, and then the forms of lines.
	for _, size := range []int{3999, 4000, 4001, 1 << 16} {
		for _, x := range []struct {
			head, piece string
			line        int
			want        api.Errno
		}{
			{"", "\n", 1, api.ErrForm}, {"", " ", 1, api.ErrForm}, {"", "\x00", 1, api.ErrForm}, {"", "\xff", 1, api.ErrForm}, {"grid 1 1\n", "\n", 2, api.ErrForm}, {"grid 1 1\n", " ", 2, api.ErrForm}, {"grid ", "1", 1, api.ErrForm}, {"grid ", "0", 1, api.ErrForm}, {"grid 1 1\nuser ", "a", 2, api.ErrForm}, {"grid 1 1\nzone ", "A", 2, api.ErrForm}, {"grid 1 1\nzone A1 0:", "1,", 2, api.ErrForm},
			{"grid 1 1", "\n", 2, api.ErrForm}, {"grid 1 401\nzone A1 0\n", "x", 3, api.ErrForm},
		} {
			line, want := x.line, x.want
			if size > 4000 {
				line, want = 0, api.ErrLong
			}
			ask(t, (x.head + strings.Repeat(x.piece, size))[:size], line, want)
		}
	}
	name := strings.Repeat("n", 4000-len("grid 1 1\nuser  0\n"))
	ask(t, "grid 1 1\nuser "+name+" 0\n", 2, api.ErrForm)
	ask(t, "grid 1 1\nuser "+name+"n 0\n", 0, api.ErrLong)
	ask(t, "grid 1 1\ngrant "+name[:len(name)-3]+" 0 0\n", 2, api.ErrUser)
}

// bases is texts to be changed a little: all kinds of lines, right ones and wrong ones.
func bases() []string {
	return []string{
		"grid 2 12\nzone A1:B2 1\nzone L1 2:3,10\nuser ann 3\nuser b2 top\ngrant ann 15:1 0\ngrant b2 top 9\n",
		"grid 40 10\nuser grid 1\ngrant grid 1 0\n",
		"grid 9 9\nzone A1 0\nzone B2:A1 0\nuser A 1\nuser  2\ngrant  1 1\n",
		"grid 99 99\nzone A99\nuser top top\n",
	}
}

// TestParseOfChangedTexts takes out, puts in and changes each byte, and takes out each pair of places' piece.
func TestParseOfChangedTexts(t *testing.T) {
	pieces := []string{" ", "\n", "\r", "\t", "0", "1", "9", "A", "a", ":", ",", "-", "+", "\x00", "\xff", "\xc2\xa0", "  ", "\n\n", "x 0\nuser y", "grid 1 1\n", "zone A1 0\n", "user c 0\n", "grant ann 0 0\n"}
	for _, base := range bases() {
		hold(t, base)
		for i := range len(base) + 1 {
			hold(t, base[:i])
			for _, piece := range pieces {
				hold(t, base[:i]+piece+base[i:])
				if i < len(base) {
					hold(t, base[:i]+piece+base[i+1:])
				}
			}
			for j := i + 1; j <= len(base); j++ {
				hold(t, base[:i]+base[j:])
			}
		}
	}
}

// TestParseOfEachByte puts each byte at each place.
func TestParseOfEachByte(t *testing.T) {
	base := "grid 2 12\nzone A1:B2 1\nuser ann top\ngrant ann 3 2:1\n"
	for i := range len(base) {
		for b := range 256 {
			hold(t, base[:i]+string([]byte{byte(b)})+base[i+1:])
			hold(t, base[:i]+string([]byte{byte(b)})+base[i:])
		}
	}
}

// TestParseOfLinesInAnyRow takes lines by chance, right and wrong ones.
func TestParseOfLinesInAnyRow(t *testing.T) {
	chance := rand.New(rand.NewSource(7))
	heads := []string{"grid 2 2\n", "grid 20 20\n", "grid 1 401\n", "grid 0 1\n", "zone A1 0\n", ""}
	zones := []string{"zone A1 0\n", "zone A1:B2 3\n", "zone B2:A1 3\n", "zone C3 3\n", "zone A1 top\n", "zone A1:A1 1\n", "zone A1 16\n"}
	users := []string{"user a 1\n", "user b 2\n", "user c 3\n", "user d top\n", "user A 1\n", "user  1\n", "user e 16\n"}
	grants := []string{"grant a 1 0\n", "grant b 2 1\n", "grant z 1 1\n", "grant  1 1\n", "grant a 0\n", "grant a 1 1:1\n"}
	odd := []string{"\n", " \n", "x\n", "grid 1 1\n", "user a", "zone A1 0\n", "user a 1\n"}
	some := func(l []string, most int) string {
		s := ""
		for range chance.Intn(most + 1) {
			// Mostly the first ones, which are right.
			s += l[min(chance.Intn(len(l)), chance.Intn(len(l)))]
		}
		return s
	}
	for range 20000 {
		s := heads[min(chance.Intn(len(heads)), chance.Intn(len(heads)), chance.Intn(len(heads)))] + some(zones, 4) + some(users, 4) + some(grants, 4)
		if chance.Intn(4) == 0 {
			s += odd[chance.Intn(len(odd))] + some(grants, 2)
		}
		hold(t, s)
	}
}

// P7.4

// randomLabel is any label that may be, mostly one of few categories.
func randomLabel(chance *rand.Rand) api.Label {
	l := api.Label{Level: chance.Intn(16)}
	switch chance.Intn(4) {
	case 0:
		l.Cats = 1<<chance.Intn(64) | 1<<chance.Intn(64)
	case 1:
		l.Cats = all << chance.Intn(64)
	case 2:
		l = labelOf(15, all)
	}
	return l
}

// randomPolicy is any policy that is right.
func randomPolicy(chance *rand.Rand) api.Policy {
	p := api.Policy{Rows: 1 + chance.Intn(400)}
	p.Cols = 1 + chance.Intn(400/p.Rows)
	if chance.Intn(2) == 0 && p.Rows <= 400 {
		p.Rows, p.Cols = p.Cols, p.Rows
	}
	for range chance.Intn(6) {
		from := api.Cell{Row: chance.Intn(p.Rows), Col: chance.Intn(p.Cols)}
		to := api.Cell{Row: from.Row + chance.Intn(p.Rows-from.Row), Col: from.Col + chance.Intn(p.Cols-from.Col)}
		p.Zones = append(p.Zones, api.Zone{Span: api.Span{From: from, To: to}, Label: randomLabel(chance)})
	}
	for _, u := range manyUsers(chance.Intn(6)) {
		p.Users = append(p.Users, api.User{Name: u.Name + strings.Repeat("x", chance.Intn(16)), Clear: randomLabel(chance)})
	}
	if len(p.Users) > 0 {
		for range chance.Intn(6) {
			p.Grants = append(p.Grants, api.Grant{User: p.Users[chance.Intn(len(p.Users))].Name, From: randomLabel(chance), To: randomLabel(chance)})
		}
	}
	return p
}

func TestWhatIsToldIsReadBack(t *testing.T) {
	chance := rand.New(rand.NewSource(4))
	for range 5000 {
		p := randomPolicy(chance)
		s := Text(p)
		if s == "" || len(s) > 4000 {
			t.Fatalf("Text(%v): %q", p, s)
		}
		if got, line, e := Parse(s); line != 0 || e != api.OK || !alike(got, p) {
			t.Fatalf("%v is told as %q, and read as %v, %d, %d", p, s, got, line, e)
		}
	}
	for zones := range 33 {
		for _, users := range []int{1, 2, 15, 16} {
			for _, grants := range []int{0, 1, 31, 32} {
				p := manyOf(zones, users, grants)
				if got, line, e := Parse(Text(p)); line != 0 || e != api.OK || !alike(got, p) {
					t.Errorf("%v is read as %v, %d, %d", p, got, line, e)
				}
			}
		}
	}
}

// TestEachGridIsReadBack goes through all grids that may be.
func TestEachGridIsReadBack(t *testing.T) {
	for rows := 1; rows <= 400; rows++ {
		for cols := 1; cols <= 400/rows; cols++ {
			s := fmt.Sprintf("grid %d %d\n", rows, cols)
			p, line, e := Parse(s)
			if line != 0 || e != api.OK || !alike(p, gridOf(rows, cols)) || Text(p) != s {
				t.Errorf("Parse(%q): %v, %d, %d", s, p, line, e)
			}
		}
	}
}

func TestWhatIsReadIsTold(t *testing.T) {
	for s := range told() {
		p, _, e := Parse(s)
		if e != api.OK || Text(p) != s {
			t.Errorf("%q is told as %q", s, Text(p))
		}
	}
}

func FuzzParse(f *testing.F) {
	for s := range told() {
		f.Add(s)
	}
	for _, s := range bases() {
		f.Add(s)
	}
	f.Fuzz(func(t *testing.T, s string) { hold(t, s) })
}

// What is handed in stays as it is, and what is handed out is new.

// roomy is a list with spare room behind it, filled with an element.
func roomy[T any](l []T, spare T) []T {
	r := append(slices.Clone(l), spare, spare, spare)
	return r[:len(l)]
}

func TestPoliciesStayAsTheyAre(t *testing.T) {
	wrong := manyOf(3, 3, 3)
	wrong.Grants[1].User = "nobody"
	right, _ := mixed()
	for _, p := range []api.Policy{right, wrong, manyOf(33, 17, 33), manyOf(0, 0, 0)} {
		p.Zones, p.Users, p.Grants = roomy(p.Zones, zoneOf(9, 9, 9, 9, 9)), roomy(p.Users, userOf("spare", 9)), roomy(p.Grants, grantOf("spare", 9, 9))
		was := api.Policy{Rows: p.Rows, Cols: p.Cols, Zones: slices.Clone(p.Zones[:len(p.Zones)+3]), Users: slices.Clone(p.Users[:len(p.Users)+3]), Grants: slices.Clone(p.Grants[:len(p.Grants)+3])}
		Wrong(p)
		Text(p)
		In(p, api.Cell{Row: 1, Col: 1})
		is := p
		is.Zones, is.Users, is.Grants = p.Zones[:len(p.Zones)+3], p.Users[:len(p.Users)+3], p.Grants[:len(p.Grants)+3]
		if !reflect.DeepEqual(is, was) {
			t.Errorf("%v became %v", was, is)
		}
	}
}

func TestParseIsNewEachTime(t *testing.T) {
	want, s := mixed()
	a, _, _ := Parse(s)
	b, _, _ := Parse(s)
	for i := range a.Zones {
		a.Zones[i] = zoneOf(7, 7, 7, 7, 7)
	}
	for i := range a.Users {
		a.Users[i] = userOf("gone", 7)
	}
	for i := range a.Grants {
		a.Grants[i] = grantOf("gone", 7, 7)
	}
	_, _, _ = append(a.Zones, zoneOf(8, 8, 8, 8, 8)), append(a.Users, userOf("more", 8)), append(a.Grants, grantOf("more", 8, 8))
	c, line, e := Parse(s)
	if !alike(b, want) || !alike(c, want) || line != 0 || e != api.OK {
		t.Errorf("Parse: %v, and then %v, %d, %d", b, c, line, e)
	}
}
