package order

import (
	"encoding/binary"
	"fmt"
	"math"
	"math/big"
	"math/rand"
	"slices"
	"testing"
)

// The greatest decimal, the least one, and the one number of 64 bits that may not be.
const (
	most  = int64(9223372036854775807)
	least = int64(-9223372036854775807)
	none  = int64(math.MinInt64)
)

// list is numbers, one behind the other.
type list = []int64

// Next come the document's words on each call, told by how each number stands to each other one.

// sortedByWords is the document's word on Sorted: each number at the place behind all lesser ones, and behind those of its own that stand earlier.
func sortedByWords(l list) list {
	rising := make(list, len(l))
	for i, x := range l {
		place := 0
		for j, y := range l {
			if y < x || y == x && j < i {
				place++
			}
		}
		rising[place] = x
	}
	return rising
}

// placed is the number at a place, counted from 1 on.
func placed(l list, k int) (int64, bool) {
	for i, x := range l {
		if i+1 == k {
			return x, true
		}
	}
	return 0, false
}

// smallByWords is the document's word on Small.
func smallByWords(l list, k int) (int64, bool) { return placed(sortedByWords(l), k) }

// largeByWords is the document's word on Large.
func largeByWords(l list, k int) (int64, bool) {
	falling := sortedByWords(l)
	slices.Reverse(falling)
	return placed(falling, k)
}

// medianByWords is the document's word on Median, in numbers of any length.
func medianByWords(l list) (int64, bool) {
	rising := sortedByWords(l)
	for len(rising) > 2 {
		rising = rising[1 : len(rising)-1]
	}
	switch len(rising) {
	case 0:
		return 0, false
	case 1:
		return rising[0], true
	}
	sum := new(big.Int).Add(big.NewInt(rising[0]), big.NewInt(rising[1]))
	if sum.CmpAbs(big.NewInt(most)) > 0 {
		return 0, false
	}
	half, rest := new(big.Int).QuoRem(sum, big.NewInt(2), new(big.Int))
	// A half is as near to the whole number further from 0, which is on the side of what is left.
	return half.Int64() + rest.Int64(), true
}

// rankByWords is the document's word on Rank.
func rankByWords(x int64, l list) (int, bool) {
	greater, there := 0, false
	for _, y := range l {
		if y > x {
			greater++
		}
		there = there || y == x
	}
	if !there {
		return 0, false
	}
	return greater + 1, true
}

// timesByWords is how often a number is there.
func timesByWords(l list, x int64) int {
	n := 0
	for _, y := range l {
		if y == x {
			n++
		}
	}
	return n
}

// modeByWords is the document's word on Mode: from the last number to the first one, so that of several the first one stays.
func modeByWords(l list) (int64, bool) {
	mode, often := int64(0), 2
	for _, x := range slices.Backward(l) {
		if n := timesByWords(l, x); n >= often {
			mode, often = x, n
		}
	}
	return mode, timesByWords(l, mode) > 1
}

// farPlaces is places that no list has, also if their low bits were taken alone.
func farPlaces() []int {
	return []int{0, -1, -2, math.MinInt, math.MinInt + 1, math.MinInt + 2, math.MaxInt, math.MaxInt - 1, 1 << 32, 1<<32 + 1, 1<<32 + 2, -1 << 32, -1<<32 + 1, 1<<16 + 1, 257}
}

// shown is a list as a test tells it, cut off if it is long.
func shown(l list) string { return fmt.Sprintf("%d numbers, %.200s", len(l), fmt.Sprint(l)) }

// answer is a number and whether there is one, as a call answers them.
type answer struct {
	x  int64
	ok bool
}

// of makes what a call answers one thing.
func of(x int64, ok bool) answer { return answer{x, ok} }

// rankOf makes what Rank answers one thing.
func rankOf(k int, ok bool) answer { return answer{int64(k), ok} }

// hold holds all calls against the document's words, and has them leave their list as it is.
func hold(t *testing.T, l list) {
	t.Helper()
	before := slices.Clone(l)
	if got, want := Sorted(l), sortedByWords(l); !slices.Equal(got, want) {
		t.Errorf("Sorted of %s: %s", shown(l), shown(got))
	}
	if got, want := of(Median(l)), of(medianByWords(l)); got != want {
		t.Errorf("Median of %s: %v, not %v", shown(l), got, want)
	}
	if got, want := of(Mode(l)), of(modeByWords(l)); got != want {
		t.Errorf("Mode of %s: %v, not %v", shown(l), got, want)
	}
	holdPlaces(t, l)
	holdRanks(t, l)
	if !slices.Equal(l, before) {
		t.Errorf("%s: changed, to %s", shown(before), shown(l))
	}
}

// holdPlaces holds Small and Large against the document's words.
func holdPlaces(t *testing.T, l list) {
	t.Helper()
	places := append(farPlaces(), len(l)+1, len(l)+2, -len(l))
	for k := range len(l) + 1 {
		places = append(places, k)
	}
	for _, k := range places {
		if got, want := of(Small(l, k)), of(smallByWords(l, k)); got != want {
			t.Errorf("Small of %s at %d: %v, not %v", shown(l), k, got, want)
		}
		if got, want := of(Large(l, k)), of(largeByWords(l, k)); got != want {
			t.Errorf("Large of %s at %d: %v, not %v", shown(l), k, got, want)
		}
	}
}

// holdRanks holds Rank of numbers that are there, and of such as may be not, against the document's words.
func holdRanks(t *testing.T, l list) {
	t.Helper()
	asked := append(list{0, 1, -1, 10000, most, least}, l...)
	for _, x := range l {
		asked = append(asked, max(least, x-1), min(x, most-1)+1, -x)
	}
	for _, x := range asked {
		if got, want := rankOf(Rank(x, l)), rankOf(rankByWords(x, l)); got != want {
			t.Errorf("Rank of %d in %s: %v, not %v", x, shown(l), got, want)
		}
	}
}

// eachList has something done with each list of up to so many of some numbers.
func eachList(of list, size int, do func(l list)) {
	var grow func(l list)
	grow = func(l list) {
		do(l)
		if len(l) == size {
			return
		}
		for _, x := range of {
			grow(append(slices.Clone(l), x))
		}
	}
	grow(list{})
}

// eachOrder has something done with the numbers of a list in each order.
func eachOrder(l list, do func(l list)) {
	var lay func(laid, left list)
	lay = func(laid, left list) {
		if len(left) == 0 {
			do(laid)
		}
		for i, x := range left {
			lay(append(slices.Clone(laid), x), slices.Delete(slices.Clone(left), i, i+1))
		}
	}
	lay(list{}, l)
}

// rising is the numbers from one to another one.
func rising(from, to int64) list {
	l := list{}
	for x := from; x <= to; x++ {
		l = append(l, x)
	}
	return l
}

// turned is a list in the order turned round.
func turned(l list) list {
	other := slices.Clone(l)
	slices.Reverse(other)
	return other
}

// chanceNumber is a number of any size, or one of a few.
func chanceNumber(chance *rand.Rand, few int64) int64 {
	switch chance.Intn(8) {
	case 0:
		// The one number that may not be is left out.
		return max(least, int64(chance.Uint64())>>chance.Intn(64))
	case 1:
		return (most - chance.Int63n(2)) * (1 - 2*chance.Int63n(2))
	}
	return chance.Int63n(few) - few/2
}

// chanceLists has something done with many lists of up to so many numbers, the same in each run.
func chanceLists(seed int64, count, size int, do func(l list)) {
	chance := rand.New(rand.NewSource(seed))
	for range count {
		l, few := list{}, 1+chance.Int63n(int64(size+1))
		for range chance.Intn(size + 1) {
			l = append(l, chanceNumber(chance, few))
		}
		do(l)
	}
}

// knownLists is lists of no number, of one, of two in both orders and of the same one twice, and of many: in order, turned round, all the same, and some of them several times.
func knownLists() []list {
	return []list{
		nil, {}, {0}, {10000}, {-10000}, {most}, {least}, {1, 2}, {2, 1}, {1, 1}, {0, 0}, {-1, 1}, {most, least}, {least, most}, {most, most}, {least, least},
		rising(-50, 50), turned(rising(-50, 50)), slices.Repeat(list{7}, 100), slices.Repeat(list{3, -1, 2}, 40), append(rising(1, 60), turned(rising(1, 60))...),
		{most, 0, least, most - 1, 0, least + 1, most, 5, least},
	}
}

// All calls

func TestShortListsByTheirWords(t *testing.T) {
	hold(t, nil)
	eachList(list{least, -1, 0, 1, most}, 5, func(l list) { hold(t, l) })
	eachList(list{-30000, -15000, -1, 0, 2, 10000, 10001, most - 1}, 4, func(l list) { hold(t, l) })
	eachList(list{1, 2}, 9, func(l list) { hold(t, l) })
}

func TestKnownListsByTheirWords(t *testing.T) {
	for _, l := range knownLists() {
		hold(t, l)
	}
}

func TestListsByTheirWords(t *testing.T) {
	chanceLists(16, 5000, 14, func(l list) { hold(t, l) })
	chanceLists(161, 20, 120, func(l list) { hold(t, l) })
}

// TestListsOfMany has a list of the numbers from 1 to many, in an order that goes to and fro, and each of a few numbers so often that the counts need more than 16 bits.
func TestListsOfMany(t *testing.T) {
	const many = 1<<16 + 1
	l := list{}
	for i := range int64(many) {
		l = append(l, (i*40503)%many+1)
	}
	if got := Sorted(l); !slices.Equal(got, rising(1, many)) {
		t.Errorf("Sorted: %s", shown(got))
	}
	for _, x := range []struct {
		name      string
		got, want answer
	}{
		{"Median", of(Median(l)), answer{many/2 + 1, true}}, {"Median of one less", of(Median(Sorted(l)[1:])), answer{many/2 + 2, true}},
		{"Small", of(Small(l, 1<<16)), answer{1 << 16, true}}, {"Small, the last", of(Small(l, many)), answer{many, true}}, {"Small, one more", of(Small(l, many+1)), answer{0, false}},
		{"Large", of(Large(l, 1<<16)), answer{2, true}}, {"Large, the last", of(Large(l, many)), answer{1, true}}, {"Large, one more", of(Large(l, many+1)), answer{0, false}},
		{"Rank", rankOf(Rank(1, l)), answer{many, true}}, {"Rank of the greatest", rankOf(Rank(many, l)), answer{1, true}}, {"Rank of none of them", rankOf(Rank(many+1, l)), answer{0, false}},
		{"Mode", of(Mode(l)), answer{0, false}}, {"Mode of one twice", of(Mode(append(l[:many:many], 77))), answer{77, true}},
		{"Mode of one more often", of(Mode(slices.Concat(slices.Repeat(list{5}, 1<<16), slices.Repeat(list{3}, many)))), answer{3, true}},
		{"Rank below many of one", rankOf(Rank(4, append(slices.Repeat(list{5}, many), 4))), answer{many + 1, true}},
	} {
		if x.got != x.want {
			t.Errorf("%s: %v, not %v", x.name, x.got, x.want)
		}
	}
}

// TestNoCallChangesItsList also has the room behind a list.
func TestNoCallChangesItsList(t *testing.T) {
	for _, l := range append(knownLists(), list{3, 1, 2}, list{3, 2, 1}, list{2, 2, 1, 1}, list{most, -1, 0, least}) {
		all := append(slices.Grow(slices.Clone(l), 64), 9, -9, 8, most, least)
		before := slices.Clone(all)
		part := all[:len(l)]
		Sorted(part)
		Median(part)
		Mode(part)
		for _, k := range append(farPlaces(), rangeOfPlaces(len(l))...) {
			Small(part, k)
			Large(part, k)
		}
		for _, x := range before {
			Rank(x, part)
		}
		if !slices.Equal(all, before) {
			t.Errorf("%s: changed, to %s", shown(before), shown(all))
		}
	}
}

// rangeOfPlaces is all places of a list of so many.
func rangeOfPlaces(size int) []int {
	places := []int{}
	for k := range size {
		places = append(places, k+1)
	}
	return places
}

// TestNothingPanics has the number that may not be, too: of lists with it nothing else is promised.
func TestNothingPanics(t *testing.T) {
	eachList(list{none, least, 0, most}, 4, func(l list) {
		Sorted(l)
		Median(l)
		Mode(l)
		for _, k := range append(farPlaces(), rangeOfPlaces(len(l)+2)...) {
			Small(l, k)
			Large(l, k)
		}
		for _, x := range []int64{none, least, 0, most, 1} {
			Rank(x, l)
		}
	})
}

// P16.1

func TestSorted(t *testing.T) {
	for _, x := range []struct{ l, want list }{
		{nil, nil}, {list{}, nil}, {list{0}, list{0}}, {list{70000}, list{70000}}, {list{most}, list{most}}, {list{least}, list{least}},
		{list{1, 2}, list{1, 2}}, {list{2, 1}, list{1, 2}}, {list{2, 2}, list{2, 2}}, {list{0, -1}, list{-1, 0}}, {list{most, least}, list{least, most}}, {list{least, most}, list{least, most}},
		{list{30000, -10000, 0, 20000, -25000}, list{-25000, -10000, 0, 20000, 30000}}, {list{2, 1, 2, 3, 1, 2}, list{1, 1, 2, 2, 2, 3}}, {list{most, 0, least, 0, most, least}, list{least, least, 0, 0, most, most}}, {list{most, most - 1, least, least + 1}, list{least, least + 1, most - 1, most}},
		{slices.Repeat(list{-5}, 40), slices.Repeat(list{-5}, 40)}, {rising(-40, 40), rising(-40, 40)}, {turned(rising(-40, 40)), rising(-40, 40)}, {append(rising(1, 40), rising(-40, 0)...), rising(-40, 40)},
		// Numbers stand by what they are, not by their digits, nor by how far they are from 0.
		{list{90000, 100000, -90000, -100000}, list{-100000, -90000, 90000, 100000}},
	} {
		if got := Sorted(x.l); !slices.Equal(got, x.want) {
			t.Errorf("Sorted of %s: %s, not %s", shown(x.l), shown(got), shown(x.want))
		}
	}
}

// TestSortedHasEachNumberAsOften counts the numbers of what is answered, of which none is ahead of a lesser one.
func TestSortedHasEachNumberAsOften(t *testing.T) {
	check := func(l list) {
		got := Sorted(l)
		if len(got) != len(l) || !slices.IsSorted(got) {
			t.Errorf("Sorted of %s: %s", shown(l), shown(got))
		}
		for _, x := range l {
			if n := timesByWords(got, x); n != timesByWords(l, x) {
				t.Errorf("Sorted of %s: %d is there %d times", shown(l), x, n)
			}
		}
	}
	for _, l := range knownLists() {
		check(l)
	}
	chanceLists(162, 500, 60, check)
}

// TestSortedIsNewMemory writes into what was answered, and into the list behind the answer.
func TestSortedIsNewMemory(t *testing.T) {
	for _, x := range []struct{ l, want list }{{list{3, 1, 2}, list{1, 2, 3}}, {list{1, 2, 3}, list{1, 2, 3}}, {list{5}, list{5}}, {list{4, 4}, list{4, 4}}} {
		before := slices.Clone(x.l)
		first, second := Sorted(x.l), Sorted(x.l)
		for i := range first {
			first[i] = 9
		}
		if third := Sorted(x.l); !slices.Equal(second, x.want) || !slices.Equal(third, x.want) || !slices.Equal(x.l, before) {
			t.Errorf("%s, then %s of %s, once an earlier answer is written into", shown(second), shown(third), shown(x.l))
		}
		for i := range x.l {
			x.l[i] = 8
		}
		if !slices.Equal(second, x.want) {
			t.Errorf("%s, once the list is written into", shown(second))
		}
	}
}

// TestSortedOfNothingHasNoRoomOfTheList appends to what is answered of no number, ahead of others of the same memory.
func TestSortedOfNothingHasNoRoomOfTheList(t *testing.T) {
	all := list{1, 2, 3}
	if got := append(Sorted(all[:0]), 9); len(got) != 1 || !slices.Equal(all, list{1, 2, 3}) {
		t.Errorf("%s, and the list is %s", shown(got), shown(all))
	}
}

// place is a place of a list, and what a call should answer there.
type place struct {
	l    list
	k    int
	want int64
	ok   bool
}

// askPlaces has a call answer each place.
func askPlaces(t *testing.T, name string, call func(l []int64, k int) (int64, bool), l []place) {
	t.Helper()
	for _, x := range l {
		if got, ok := call(x.l, x.k); got != x.want || ok != x.ok {
			t.Errorf("%s of %s at %d: %d, %v, not %d, %v", name, shown(x.l), x.k, got, ok, x.want, x.ok)
		}
	}
}

func TestSmall(t *testing.T) {
	five := list{30000, -10000, 0, 20000, -25000}
	askPlaces(t, "Small", Small, []place{
		{five, 1, -25000, true}, {five, 2, -10000, true}, {five, 3, 0, true}, {five, 4, 20000, true}, {five, 5, 30000, true}, {five, 6, 0, false}, {five, 0, 0, false}, {five, -1, 0, false}, {five, -5, 0, false},
		{nil, 1, 0, false}, {nil, 0, 0, false}, {nil, -1, 0, false}, {list{}, 1, 0, false}, {list{}, 0, 0, false}, {list{7}, 1, 7, true}, {list{7}, 0, 0, false}, {list{7}, 2, 0, false},
		{list{1, 2}, 1, 1, true}, {list{2, 1}, 1, 1, true}, {list{1, 2}, 2, 2, true}, {list{2, 1}, 2, 2, true}, {list{2, 2}, 1, 2, true}, {list{2, 2}, 2, 2, true}, {list{2, 2}, 3, 0, false},
		{list{5, 3, 5, 3, 4}, 2, 3, true}, {list{5, 3, 5, 3, 4}, 3, 4, true}, {list{5, 3, 5, 3, 4}, 4, 5, true}, {list{most, least, 0}, 1, least, true}, {list{most, least, 0}, 2, 0, true}, {list{most, least, 0}, 3, most, true},
	})
}

func TestLarge(t *testing.T) {
	five := list{30000, -10000, 0, 20000, -25000}
	askPlaces(t, "Large", Large, []place{
		{five, 1, 30000, true}, {five, 2, 20000, true}, {five, 3, 0, true}, {five, 4, -10000, true}, {five, 5, -25000, true}, {five, 6, 0, false}, {five, 0, 0, false}, {five, -1, 0, false}, {five, -5, 0, false},
		{nil, 1, 0, false}, {nil, 0, 0, false}, {nil, -1, 0, false}, {list{}, 1, 0, false}, {list{}, 0, 0, false}, {list{7}, 1, 7, true}, {list{7}, 0, 0, false}, {list{7}, 2, 0, false},
		{list{1, 2}, 1, 2, true}, {list{2, 1}, 1, 2, true}, {list{1, 2}, 2, 1, true}, {list{2, 1}, 2, 1, true}, {list{2, 2}, 1, 2, true}, {list{2, 2}, 2, 2, true}, {list{2, 2}, 3, 0, false},
		{list{5, 3, 5, 3, 4}, 2, 5, true}, {list{5, 3, 5, 3, 4}, 3, 4, true}, {list{5, 3, 5, 3, 4}, 4, 3, true}, {list{most, least, 0}, 1, most, true}, {list{most, least, 0}, 2, 0, true}, {list{most, least, 0}, 3, least, true},
	})
}

// TestNoSuchPlace has places far from all lists, at both ends of the type's range, too.
func TestNoSuchPlace(t *testing.T) {
	for _, l := range knownLists() {
		for _, k := range append(farPlaces(), len(l)+1, len(l)+2, -len(l), math.MinInt+len(l), math.MinInt+len(l)+1, math.MaxInt-len(l)) {
			if k >= 1 && k <= len(l) {
				continue
			}
			if got, ok := Small(l, k); got != 0 || ok {
				t.Errorf("Small of %s at %d: %d, %v", shown(l), k, got, ok)
			}
			if got, ok := Large(l, k); got != 0 || ok {
				t.Errorf("Large of %s at %d: %d, %v", shown(l), k, got, ok)
			}
		}
	}
}

// P16.2

// row is a list, and what a call should answer of it.
type row struct {
	l    list
	want int64
	ok   bool
}

// ask has a call answer each row.
func ask(t *testing.T, name string, call func(l []int64) (int64, bool), rows []row) {
	t.Helper()
	for _, r := range rows {
		if got, ok := call(r.l); got != r.want || ok != r.ok {
			t.Errorf("%s of %s: %d, %v, not %d, %v", name, shown(r.l), got, ok, r.want, r.ok)
		}
	}
}

func TestMedian(t *testing.T) {
	ask(t, "Median", Median, []row{
		{nil, 0, false}, {list{}, 0, false},
		{list{0}, 0, true}, {list{70000}, 70000, true}, {list{-1}, -1, true}, {list{most}, most, true}, {list{least}, least, true},
		{list{1, 2, 3}, 2, true}, {list{3, 1, 2}, 2, true}, {list{2, 3, 1}, 2, true}, {list{5, 5, 1}, 5, true}, {list{most, most, 0}, most, true}, {list{least, least, 0}, least, true}, {list{most, least, 0}, 0, true}, {list{most, 5, least}, 5, true}, {list{9, 1, 8, 2, 7}, 7, true}, {list{100000, 1, 2, 3, 4}, 3, true},
		{list{10000, 20000}, 15000, true}, {list{20000, 10000}, 15000, true}, {list{10000, 10000}, 10000, true}, {list{-10000, 10000}, 0, true}, {list{1, 100, 3, 200}, 52, true}, {list{9, 0, 0, 1}, 1, true}, {list{6, 6, 6, 6}, 6, true}, {list{4, -4, 8, -8}, 0, true},
		// A half is rounded to what is further from 0, on both sides of it.
		{list{1, 2}, 2, true}, {list{2, 1}, 2, true}, {list{0, 1}, 1, true}, {list{-1, 2}, 1, true}, {list{2, 3}, 3, true}, {list{5, 10, 7, 8}, 8, true},
		{list{-1, -2}, -2, true}, {list{-2, -1}, -2, true}, {list{0, -1}, -1, true}, {list{1, -2}, -1, true}, {list{-2, -3}, -3, true}, {list{-5, -10, -7, -8}, -8, true},
		{list{3, -2, 1, -3}, -1, true}, {list{3, 2, -1, -3}, 1, true}, {list{0, 0, 1, 1}, 1, true}, {list{0, 0, -1, -1}, -1, true},
	})
}

// TestMedianAboutTheRoom has two in the middle whose sum just has room, and just none.
func TestMedianAboutTheRoom(t *testing.T) {
	const half = int64(4611686018427387904)
	ask(t, "Median", Median, []row{
		{list{most, 0}, half, true}, {list{0, most}, half, true}, {list{most - 1, 0}, half - 1, true}, {list{most - 1, 1}, half, true}, {list{half, half - 1}, half, true}, {list{half - 1, half - 1}, half - 1, true}, {list{most, -1}, half - 1, true}, {list{most, least}, 0, true}, {list{most, least + 1}, 1, true}, {list{most, least, 0, half, half - 1, -1, most, least}, half / 2, true},
		{list{least, 0}, -half, true}, {list{0, least}, -half, true}, {list{least + 1, 0}, -half + 1, true}, {list{least + 1, -1}, -half, true}, {list{-half, -half + 1}, -half, true}, {list{-half + 1, -half + 1}, -half + 1, true}, {list{least, 1}, -half + 1, true}, {list{least, most - 1}, -1, true},
		{list{most, 1}, 0, false}, {list{1, most}, 0, false}, {list{most - 1, 2}, 0, false}, {list{half, half}, 0, false}, {list{most, most}, 0, false}, {list{most, most - 1}, 0, false}, {list{0, 0, most, half, half, 0}, half / 2, true}, {list{0, most, half, half, least, most}, 0, false},
		{list{least, -1}, 0, false}, {list{-1, least}, 0, false}, {list{least + 1, -2}, 0, false}, {list{-half, -half}, 0, false}, {list{least, least}, 0, false}, {list{least, least + 1}, 0, false}, {list{0, least, -half, -half, most, least}, 0, false},
		// Only the two in the middle are added, and of an odd number of numbers none.
		{list{most, most, 1, 2}, 0, false}, {list{most, most, 1, 2, 3, 4}, 4, true}, {list{least, least, 1, 3, most, most}, 2, true}, {list{most, most, most}, most, true}, {list{least, least, least}, least, true}, {list{most, most, most, 0}, 0, false}, {list{most, 0, 0, 0}, 0, true},
	})
}

// P16.3

func TestRank(t *testing.T) {
	l := list{30000, -10000, 20000, 30000, 0, 20000, 20000, -50000}
	for _, x := range []struct {
		x    int64
		l    list
		want int
		ok   bool
	}{
		{30000, l, 1, true}, {20000, l, 3, true}, {0, l, 6, true}, {-10000, l, 7, true}, {-50000, l, 8, true},
		{10000, l, 0, false}, {40000, l, 0, false}, {-60000, l, 0, false}, {20001, l, 0, false}, {19999, l, 0, false}, {most, l, 0, false}, {least, l, 0, false},
		{0, nil, 0, false}, {0, list{}, 0, false}, {1, nil, 0, false}, {most, nil, 0, false}, {7, list{7}, 1, true}, {0, list{0}, 1, true}, {0, list{7}, 0, false}, {8, list{7}, 0, false}, {-7, list{7}, 0, false},
		{1, list{1, 2}, 2, true}, {2, list{1, 2}, 1, true}, {1, list{2, 1}, 2, true}, {2, list{2, 1}, 1, true}, {2, list{2, 2}, 1, true}, {3, list{2, 2}, 0, false},
		{most, list{least, most, 0}, 1, true}, {0, list{least, most, 0}, 2, true}, {least, list{least, most, 0}, 3, true}, {most - 1, list{least, most, 0}, 0, false}, {least + 1, list{least, most, 0}, 0, false},
		{1, rising(1, 100), 100, true}, {100, rising(1, 100), 1, true}, {40, rising(1, 100), 61, true}, {40, turned(rising(1, 100)), 61, true}, {0, rising(1, 100), 0, false}, {101, rising(1, 100), 0, false}, {5, slices.Repeat(list{5}, 300), 1, true}, {4, append(slices.Repeat(list{5}, 300), 4, 4), 301, true},
	} {
		if got, ok := Rank(x.x, x.l); got != x.want || ok != x.ok {
			t.Errorf("Rank of %d in %s: %d, %v, not %d, %v", x.x, shown(x.l), got, ok, x.want, x.ok)
		}
	}
}

func TestMode(t *testing.T) {
	ask(t, "Mode", Mode, []row{
		{nil, 0, false}, {list{}, 0, false}, {list{0}, 0, false}, {list{7}, 0, false}, {list{most}, 0, false}, {list{1, 2}, 0, false}, {list{2, 1}, 0, false}, {list{1, -1}, 0, false}, {list{most, least, 0}, 0, false}, {rising(1, 100), 0, false}, {turned(rising(-50, 50)), 0, false},
		{list{7, 7}, 7, true}, {list{1, 7, 7}, 7, true}, {list{7, 1, 7}, 7, true}, {list{7, 7, 1}, 7, true}, {list{-3, -3}, -3, true}, {list{most, 0, most}, most, true}, {list{least, 0, least}, least, true}, {slices.Repeat(list{5}, 300), 5, true},
		// What is there most often counts, wherever it stands.
		{list{1, 1, 2, 2, 2}, 2, true}, {list{2, 2, 2, 1, 1}, 2, true}, {list{1, 2, 2, 1, 2}, 2, true}, {list{9, 9, 8, 8, 7, 7, 7}, 7, true}, {list{1, 2, 1, 2, 3, 2}, 2, true}, {append(rising(1, 100), 64), 64, true}, {append(append(rising(1, 100), rising(1, 100)...), 100), 100, true},
		// Of several that are there as often the first one counts, also where another one is there for the second time earlier.
		{list{1, 1, 2, 2}, 1, true}, {list{2, 2, 1, 1}, 2, true}, {list{1, 2, 2, 1}, 1, true}, {list{2, 1, 1, 2}, 2, true}, {list{1, 2, 1, 2}, 1, true}, {list{2, 1, 2, 1}, 2, true}, {list{3, 1, 1, 2, 2, 3}, 3, true}, {list{9, 3, 1, 1, 3}, 3, true}, {list{9, 1, 3, 3, 1}, 1, true}, {list{5, 4, 4, 4, 5, 5}, 5, true}, {list{least, most, most, least}, least, true}, {list{most, least, least, most}, most, true}, {append(turned(rising(1, 100)), rising(1, 100)...), 100, true}, {append(rising(-100, -1), turned(rising(-100, -1))...), -100, true},
		// 0 is as good as any other one.
		{list{0, 0}, 0, true}, {list{1, 0, 0}, 0, true}, {list{0, 1, 0}, 0, true}, {list{0, 0, 1, 1}, 0, true}, {list{1, 0, 0, 1}, 1, true}, {list{0, 1, 1, 0}, 0, true}, {list{-1, -1, 0, 0}, -1, true}, {list{2, 2, 0, 0, 0}, 0, true}, {list{0, 2, 2}, 2, true},
	})
}

// P16.4

// TestOrderChangesTheModeAlone has short lists in all their orders.
func TestOrderChangesTheModeAlone(t *testing.T) {
	for _, l := range []list{
		{}, {5}, {1, 2}, {4, 4}, {1, 2, 3}, {1, 1, 2}, {0, 0, 0}, {least, 0, most}, {most, most, 1}, {1, 2, 3, 4}, {1, 1, 2, 2}, {0, 0, 1, 1}, {-1, -1, 0, 0}, {most, most - 1, 1, 0}, {least, least, most, most},
		{1, 2, 3, 4, 5}, {1, 1, 2, 2, 3}, {5, 5, 5, 2, 2}, {-2, -1, 0, 1, 2}, {1, 2, 3, 4, 5, 6}, {1, 1, 2, 2, 3, 3}, {0, 0, 7, 7, -7, -7}, {4, 4, 4, 9, 9, 1}, {-3, -2, -2, 1, 2, 2}, {most, least, 0, 0, most, least},
	} {
		all := map[int64]bool{}
		eachOrder(l, func(other list) {
			holdSameInOrder(t, l, other)
			if mode, ok := Mode(other); ok {
				all[mode] = true
			}
		})
		holdEachMode(t, l, all)
	}
}

// holdSameInOrder holds that a list and the same in another order have the same answers, but for which of several is the Mode: that is the first of them.
func holdSameInOrder(t *testing.T, l, other list) {
	t.Helper()
	if got := Sorted(other); !slices.Equal(got, Sorted(l)) {
		t.Errorf("Sorted of %s: %s", shown(other), shown(got))
	}
	if got, want := of(Median(other)), of(Median(l)); got != want {
		t.Errorf("Median of %s: %v, and %v of %s", shown(other), got, want, shown(l))
	}
	for k := -1; k <= len(l)+1; k++ {
		if got, want := of(Small(other, k)), of(Small(l, k)); got != want {
			t.Errorf("Small of %s at %d: %v, and %v of %s", shown(other), k, got, want, shown(l))
		}
		if got, want := of(Large(other, k)), of(Large(l, k)); got != want {
			t.Errorf("Large of %s at %d: %v, and %v of %s", shown(other), k, got, want, shown(l))
		}
	}
	for _, x := range append(list{0, 1, most, least}, l...) {
		if got, want := rankOf(Rank(x, other)), rankOf(Rank(x, l)); got != want {
			t.Errorf("Rank of %d in %s: %v, and %v in %s", x, shown(other), got, want, shown(l))
		}
	}
	mode, ok := Mode(other)
	here, is := Mode(l)
	if ok != is || timesByWords(l, mode) != timesByWords(l, here) {
		t.Errorf("Mode of %s: %d, %v, and %d, %v of %s", shown(other), mode, ok, here, is, shown(l))
	}
	if want, _ := modeByWords(other); mode != want {
		t.Errorf("Mode of %s: %d, not %d", shown(other), mode, want)
	}
}

// holdEachMode holds that each number that is there most often is the Mode in some order, and no other one is.
func holdEachMode(t *testing.T, l list, all map[int64]bool) {
	t.Helper()
	often := 2
	for _, x := range l {
		often = max(often, timesByWords(l, x))
	}
	for _, x := range l {
		if all[x] != (timesByWords(l, x) == often) {
			t.Errorf("Mode of %s in all orders: %d is one: %v", shown(l), x, all[x])
		}
	}
}

// TestWhoseRankIsALargeOne has what lists have, and goes from each number to its Rank and back.
func TestWhoseRankIsALargeOne(t *testing.T) {
	check := func(l list) {
		for _, x := range l {
			k, ok := Rank(x, l)
			if got, is := Large(l, k); !ok || !is || got != x {
				t.Errorf("Rank of %d in %s: %d, %v, where %d is", x, shown(l), k, ok, got)
			}
			// Ahead of the place k stand greater ones alone: there is no lesser one.
			if ahead, is := Large(l, k-1); is && ahead <= x {
				t.Errorf("Rank of %d in %s: %d, but %d is ahead of it", x, shown(l), k, ahead)
			}
		}
	}
	eachList(list{least, -1, 0, 1, most}, 5, check)
	for _, l := range knownLists() {
		check(l)
	}
	chanceLists(164, 2000, 20, check)
}

// FuzzAll makes lists of bytes, nine of them a number, and holds all calls against the document's words.
func FuzzAll(f *testing.F) {
	f.Add([]byte("\x00\x7f\xff\xff\xff\xff\xff\xff\xff\x00\x00\x00\x00\x00\x00\x00\x00\x01"))
	f.Add([]byte("\x00\x80\x00\x00\x00\x00\x00\x00\x01\x01\x00\x00\x00\x00\x00\x00\x00\x05\x02\xff\x00\x00\x00\x00\x00\x00\x00"))
	f.Add([]byte("\x03\x00\x00\x00\x00\x00\x00\x00\x01\x03\x00\x00\x00\x00\x00\x00\x00\x02\x03\x00\x00\x00\x00\x00\x00\x00\x02\x03\x00\x00\x00\x00\x00\x00\x00\x01"))
	f.Fuzz(func(t *testing.T, b []byte) {
		l := list{}
		for ; len(b) >= 9; b = b[9:] {
			x := max(least, int64(binary.BigEndian.Uint64(b[1:9])))
			l = append(l, []int64{x, x >> 32, x % 5, x % 2, most, least}[b[0]%6])
		}
		// The words tell each number by all others, for each place: of long lists that takes long.
		hold(t, l[:min(60, len(l))])
	})
}
