package tests

// Promise 5, as far as sorted access and boxes go: the answer contains exactly the items that no other one is better than, however it is found.

import (
	"math"
	"math/rand"
	"reflect"
	"slices"
	"testing"

	"loop.example/g01987/impl"
)

// farFields are no fields, just beyond the limits and far from them.
var farFields = []int{-1, -2, 3, 4, 5, 10, 100, math.MaxInt, math.MinInt, 1 << 32, 1<<32 + 1, 1 << 8}

// fieldLists returns all valid lists of fields.
func fieldLists() [][]int {
	return [][]int{{0}, {1}, {2}, {0, 1}, {0, 2}, {1, 2}, {0, 1, 2}}
}

// invalidFieldLists returns lists that break one rule each, just beyond the limits and far from them.
func invalidFieldLists() [][]int {
	all := [][]int{nil, {}, {0, 0}, {2, 2}, {1, 0}, {2, 0}, {2, 1}, {0, 2, 1}, {1, 0, 2}, {2, 1, 0}, {0, 1, 1}, {0, 0, 1}, {0, 1, 0}, {0, 1, 2, 2}, {0, 1, 2, 0}, {0, 1, 2, 3}, {-1, 0, 1, 2}}
	for _, field := range farFields {
		all = append(all, []int{field}, []int{field, 1}, []int{1, field}, []int{0, 1, field}, []int{0, field, 2}, []int{field, 1, 2})
	}
	for _, count := range []int{3, 4, 100, 5000} {
		all = append(all, slices.Repeat([]int{1}, count), slices.Repeat([]int{0, 1, 2}, count))
	}
	return all
}

// lowNodes writes LowExpression without the program.
func lowNodes(f []int) []impl.Node {
	e := nodes(lowWish(f[0]))
	for _, field := range f[1:] {
		e = nodes(e, lowWish(field), impl.OpPareto)
	}
	return e
}

// placesIn returns the place of each item of a box in the order of a field. The box contains indices of items.
func placesIn(l []impl.Item, box []int, field int) []int {
	places := make([]int, len(box))
	for i, x := range box {
		for j, y := range box {
			a, b := l[x].Values[field], l[y].Values[field]
			if b < a || b == a && j < i {
				places[i]++
			}
		}
	}
	return places
}

// inOrder returns the elements of a box in the order of a field.
func inOrder(l []impl.Item, box []int, field int) []int {
	ordered := make([]int, len(box))
	for i, place := range placesIn(l, box, field) {
		ordered[place] = box[i]
	}
	return ordered
}

// readingsOf counts the readings for valid arguments without the program: it finds the first round before which SortedBest ends.
func readingsOf(l []impl.Item, f []int) int {
	var places, orders [][]int
	for _, field := range f {
		places, orders = append(places, placesIn(l, indicesOf(l), field)), append(orders, inOrder(l, indicesOf(l), field))
	}
	for round := range l {
		read, ended := 0, false
		for i, x := range l {
			first, last, smaller := len(l), 0, false
			for k, field := range f {
				first, last = min(first, places[k][i]), max(last, places[k][i])
				smaller = smaller || x.Values[field] < l[orders[k][round]].Values[field]
			}
			if first < round {
				read++
			}
			ended = ended || last < round && smaller
		}
		if ended || read == len(l) {
			return round * len(f)
		}
	}
	return len(l) * len(f)
}

// isLess reports whether values are not greater in any of the fields and less in one.
func isLess(a, b []int, f []int) bool {
	less, greater := 0, 0
	for _, field := range f {
		switch {
		case a[field] < b[field]:
			less++
		case a[field] > b[field]:
			greater++
		}
	}
	return less > 0 && greater == 0
}

// lookedAtOf adds the items of a box that BoxBest looks at to those before. Whether an item was found does not matter: if not, one that was is better than it.
func lookedAtOf(l []impl.Item, f []int, box []int, steps int, before []int) []int {
	if len(box) == 0 {
		return before
	}
	corner := slices.Clone(l[box[0]].Values)
	for _, x := range box[1:] {
		for field := range corner {
			corner[field] = min(corner[field], l[x].Values[field])
		}
	}
	if slices.ContainsFunc(before, func(x int) bool { return isLess(l[x].Values, corner, f) }) {
		return before
	}
	if len(box) <= 2 {
		return append(before, box...)
	}
	ordered := inOrder(l, box, f[steps%len(f)])
	before = lookedAtOf(l, f, ordered[:len(box)/2], steps+1, before)
	return lookedAtOf(l, f, ordered[len(box)/2:], steps+1, before)
}

func wantSorted(t *testing.T, l []impl.Item, f []int, best []int, readings int) {
	t.Helper()
	got, n := impl.SortedBest(l, f)
	if !slices.Equal(got, best) || n != readings {
		t.Errorf("SortedBest of %v by the fields %v = %v, %d, want %v, %d", l, f, got, n, best, readings)
	}
}

func wantBoxed(t *testing.T, l []impl.Item, f []int, best []int, lookedAt int) {
	t.Helper()
	got, n := impl.BoxBest(l, f)
	if !slices.Equal(got, best) || n != lookedAt {
		t.Errorf("BoxBest of %v by the fields %v = %v, %d, want %v, %d", l, f, got, n, best, lookedAt)
	}
}

func wantByField(t *testing.T, l []impl.Item, field int, want ...int) {
	t.Helper()
	got := impl.SortByField(l, field)
	if !slices.Equal(got, want) {
		t.Errorf("SortByField of %v by the field %d = %v, want %v", l, field, got, want)
	}
}

func wantFieldList(t *testing.T, f []int, want bool) {
	t.Helper()
	if impl.IsFieldList(f) != want {
		t.Errorf("IsFieldList(%v) = %t", f, !want)
	}
}

func wantLow(t *testing.T, f []int, want []impl.Node, ok bool) {
	t.Helper()
	got, gotOk := impl.LowExpression(f)
	if !sameNodes(got, want) || gotOk != ok {
		t.Errorf("LowExpression(%v) = %v, %t, want %v, %t", f, got, gotOk, want, ok)
	}
}

// wantLowest checks SortedBest and BoxBest for valid arguments against what is found without the program.
func wantLowest(t *testing.T, l []impl.Item, f []int) {
	t.Helper()
	best := answersOf(l, lowNodes(f)).best
	wantSorted(t, l, f, best, readingsOf(l, f))
	wantBoxed(t, l, f, best, len(lookedAtOf(l, f, indicesOf(l), 0, nil)))
}

// wantAllLowest checks all functions with items for all valid fields.
func wantAllLowest(t *testing.T, l []impl.Item) {
	t.Helper()
	for _, f := range fieldLists() {
		wantLowest(t, l, f)
	}
	for field := range impl.FieldCount {
		wantByField(t, l, field, idsAt(l, inOrder(l, indicesOf(l), field)...)...)
	}
}

// wantNoLowest checks the fixed results of items that are not valid.
func wantNoLowest(t *testing.T, l []impl.Item) {
	t.Helper()
	for _, f := range append(fieldLists(), nil, []int{3}, []int{1, 0}) {
		wantSorted(t, l, f, nil, 0)
		wantBoxed(t, l, f, nil, 0)
	}
	for field := range impl.FieldCount + 1 {
		wantByField(t, l, field)
	}
}

func TestIsFieldList(t *testing.T) {
	for _, f := range fieldLists() {
		wantFieldList(t, f, true)
	}
	for _, f := range invalidFieldLists() {
		wantFieldList(t, f, false)
	}
}

func TestIsFieldListOfAllShortLists(t *testing.T) {
	lists := [][]int{nil}
	for at := 0; at < len(lists) && len(lists[at]) < 5; at++ {
		for field := -1; field <= impl.FieldCount; field++ {
			lists = append(lists, append(slices.Clone(lists[at]), field))
		}
	}
	valid := 0
	for _, f := range lists {
		isOne := slices.ContainsFunc(fieldLists(), func(other []int) bool { return slices.Equal(f, other) })
		wantFieldList(t, f, isOne)
		if isOne {
			valid++
			wantLow(t, f, lowNodes(f), true)
		} else {
			wantLow(t, f, nil, false)
		}
	}
	if valid != 7 || len(lists) != 1+5+25+125+625+3125 {
		t.Errorf("%d valid lists of %d", valid, len(lists))
	}
}

func TestIsFieldListLooksAtTheLengthOnly(t *testing.T) {
	row := []int{1, 2, 2, 3}
	wantFieldList(t, row[:2], true)
	wantFieldList(t, row[:3], false)
	wantFieldList(t, row[:0], false)
	wantFieldList(t, row[2:3], true)
	wantFieldList(t, row[3:], false)
}

func TestLowExpression(t *testing.T) {
	for _, c := range []struct {
		f []int
		s string
	}{
		{[]int{0}, "low f0"},
		{[]int{1}, "low f1"},
		{[]int{2}, "low f2"},
		{[]int{0, 1}, "low f0; low f1; and"},
		{[]int{0, 2}, "low f0; low f2; and"},
		{[]int{1, 2}, "low f1; low f2; and"},
		{[]int{0, 1, 2}, "low f0; low f1; and; low f2; and"},
	} {
		wantLow(t, c.f, reading(t, c.s), true)
		e, _ := impl.LowExpression(c.f)
		if impl.FormatExpression(e) != c.s {
			t.Errorf("LowExpression(%v) is %q, want %q", c.f, impl.FormatExpression(e), c.s)
		}
	}
	for _, f := range invalidFieldLists() {
		wantLow(t, f, nil, false)
	}
}

func TestLowExpressionComparesAllFields(t *testing.T) {
	for _, f := range fieldLists() {
		e, _ := impl.LowExpression(f)
		items := spreadItems(0, 4, 9)
		for _, x := range items {
			for _, y := range items {
				if (impl.CompareBy(e, x, y) == impl.Better) != isLess(x.Values, y.Values, f) {
					t.Errorf("CompareBy(%s, %v, %v) = %d", formatOfNodes(e), x, y, impl.CompareBy(e, x, y))
				}
			}
		}
	}
}

func TestSortByField(t *testing.T) {
	l := fiveItems()
	wantByField(t, l, 0, 1, 2, 5, 4, 3)
	wantByField(t, l, 1, 3, 2, 4, 1, 5)
	wantByField(t, l, 2, 1, 2, 3, 4, 5)
	wantByField(t, numbered(9, 0, 8, 1, 7, 2, 6, 3, 5, 4), 0, 2, 4, 6, 8, 10, 9, 7, 5, 3, 1)
	wantByField(t, numbered(0, 1, 2, 3), 0, 1, 2, 3, 4)
	wantByField(t, numbered(3, 2, 1, 0), 0, 4, 3, 2, 1)
	wantByField(t, []impl.Item{item(0, 1, 2, 3), item(99, 3, 2, 1)}, 2, 99, 0)
	for field := range impl.FieldCount {
		wantByField(t, nil, field)
		wantByField(t, []impl.Item{}, field)
		wantByField(t, []impl.Item{item(7, 3, 0, 9)}, field, 7)
	}
}

func TestSortedBest(t *testing.T) {
	for _, c := range []struct {
		f        []int
		best     []int
		readings int
	}{
		{[]int{0}, []int{1}, 1},
		{[]int{1}, []int{3}, 1},
		{[]int{2}, []int{1, 2, 3, 4, 5}, 5},
		{[]int{0, 1}, []int{1, 2, 3}, 4},
		{[]int{0, 2}, []int{1}, 2},
		{[]int{1, 2}, []int{3}, 4},
		{[]int{0, 1, 2}, []int{1, 2, 3}, 6},
	} {
		wantSorted(t, fiveItems(), c.f, c.best, c.readings)
	}
}

func TestSortedBestEndsWhenAllItemsWereRead(t *testing.T) {
	both := []int{0, 1}
	// Each item is read for one field only.
	wantSorted(t, []impl.Item{item(1, 0, 9, 0), item(2, 9, 0, 0)}, both, []int{1, 2}, 2)
	wantSorted(t, []impl.Item{item(1, 0, 9, 5), item(2, 9, 0, 5), item(3, 5, 5, 0)}, []int{0, 1, 2}, []int{1, 2, 3}, 3)
	// The one in the middle is read for both in the second round.
	wantSorted(t, []impl.Item{item(1, 0, 9, 0), item(2, 9, 0, 0), item(3, 5, 5, 0)}, both, []int{1, 2, 3}, 4)
	for count := range 11 {
		wantSorted(t, rivals(count), both, impl.IdsOf(rivals(count)), (count+1)/2*2)
	}
	// All are read for all fields.
	for count := range impl.MaxItems + 1 {
		l := twins(count, 3, 0, 9)
		for _, f := range fieldLists() {
			wantSorted(t, l, f, impl.IdsOf(l), count*len(f))
		}
	}
}

func TestSortedBestEndsAtAnItemReadForAllFields(t *testing.T) {
	both := []int{0, 1}
	// The first item is read for both fields at once, and is less in one of them only.
	wantSorted(t, []impl.Item{item(1, 2, 3, 0), item(2, 2, 4, 0), item(3, 2, 5, 0)}, both, []int{1}, 2)
	wantSorted(t, []impl.Item{item(1, 2, 3, 0), item(2, 3, 3, 0), item(3, 5, 3, 0)}, both, []int{1}, 2)
	// It is read for one field in the first round, and for the other one in the second.
	wantSorted(t, []impl.Item{item(1, 2, 3, 0), item(2, 5, 1, 0), item(3, 6, 6, 0), item(4, 7, 7, 0)}, both, []int{1, 2}, 4)
	// One that is less in a field, but was not read for the other one, does not end it.
	wantSorted(t, []impl.Item{item(1, 0, 9, 0), item(2, 9, 0, 0), item(3, 4, 4, 0), item(4, 5, 5, 0), item(5, 6, 6, 0)}, both, []int{1, 2, 3}, 4)
	// One that was read for two of three fields does not either.
	wantSorted(t, []impl.Item{item(1, 0, 0, 9), item(2, 5, 5, 0), item(3, 6, 6, 1), item(4, 7, 7, 2)}, []int{0, 1, 2}, []int{1, 2}, 6)
	wantSorted(t, []impl.Item{item(1, 0, 0, 9), item(2, 5, 5, 0), item(3, 6, 6, 1), item(4, 7, 7, 2)}, []int{0, 1}, []int{1}, 2)
}

func TestBoxBest(t *testing.T) {
	for _, c := range []struct {
		f        []int
		best     []int
		lookedAt int
	}{
		{[]int{0}, []int{1}, 2},
		{[]int{1}, []int{3}, 2},
		{[]int{2}, []int{1, 2, 3, 4, 5}, 5},
		{[]int{0, 1}, []int{1, 2, 3}, 3},
		{[]int{0, 2}, []int{1}, 2},
		{[]int{1, 2}, []int{3}, 2},
		{[]int{0, 1, 2}, []int{1, 2, 3}, 3},
	} {
		wantBoxed(t, fiveItems(), c.f, c.best, c.lookedAt)
	}
}

func TestBoxOfTwoItemsIsNotDivided(t *testing.T) {
	for _, f := range fieldLists() {
		wantBoxed(t, []impl.Item{item(1, 0, 0, 0), item(2, 9, 9, 9)}, f, []int{1}, 2)
		wantBoxed(t, []impl.Item{item(1, 9, 9, 9), item(2, 0, 0, 0)}, f, []int{2}, 2)
		wantBoxed(t, []impl.Item{item(1, 5, 5, 5), item(2, 5, 5, 5)}, f, []int{1, 2}, 2)
		wantBoxed(t, []impl.Item{item(1, 5, 5, 5)}, f, []int{1}, 1)
		// Three items are: the first half is one item, whose corner is the item itself.
		wantBoxed(t, []impl.Item{item(1, 0, 0, 0), item(2, 8, 8, 8), item(3, 9, 9, 9)}, f, []int{1}, 1)
		wantBoxed(t, []impl.Item{item(1, 9, 9, 9), item(2, 8, 8, 8), item(3, 0, 0, 0)}, f, []int{3}, 1)
		// Four items have two in each half.
		wantBoxed(t, []impl.Item{item(1, 9, 9, 9), item(2, 8, 8, 8), item(3, 1, 1, 1), item(4, 0, 0, 0)}, f, []int{4}, 2)
	}
}

func TestBoxIsLeftOutByItsCorner(t *testing.T) {
	both := []int{0, 1}
	// The corner 4,4 of the items 2 and 3 is no item, and none is less than it.
	wantBoxed(t, []impl.Item{item(1, 3, 5, 0), item(2, 4, 6, 0), item(3, 6, 4, 0)}, both, []int{1, 3}, 3)
	// The item 1 is less than the corner in one field only, and in both.
	wantBoxed(t, []impl.Item{item(1, 3, 4, 0), item(2, 4, 6, 0), item(3, 6, 4, 0)}, both, []int{1}, 1)
	wantBoxed(t, []impl.Item{item(1, 3, 3, 0), item(2, 4, 6, 0), item(3, 6, 4, 0)}, both, []int{1}, 1)
	// It is the same as the corner.
	wantBoxed(t, []impl.Item{item(1, 4, 4, 0), item(2, 4, 6, 0), item(3, 6, 4, 0)}, both, []int{1}, 3)
	wantBoxed(t, []impl.Item{item(1, 4, 4, 0), item(2, 4, 4, 0), item(3, 6, 4, 0)}, both, []int{1, 2}, 3)
	// The field 2 is not in the list.
	wantBoxed(t, []impl.Item{item(1, 3, 4, 9), item(2, 4, 6, 0), item(3, 6, 4, 0)}, both, []int{1}, 1)
	wantBoxed(t, []impl.Item{item(1, 3, 4, 9), item(2, 4, 6, 0), item(3, 6, 4, 0)}, []int{0, 1, 2}, []int{1, 2, 3}, 3)
	// The parts of a box that is not left out can be.
	wantBoxed(t, []impl.Item{item(1, 0, 5, 0), item(2, 1, 5, 0), item(3, 2, 4, 0), item(4, 3, 6, 0), item(5, 4, 7, 0)}, both, []int{1, 3}, 3)
}

func TestItemsAreNotFoundAnyMore(t *testing.T) {
	both := []int{0, 1}
	// The item 1 is found, and then not any more, in the same box.
	wantBoxed(t, []impl.Item{item(1, 3, 3, 0), item(2, 2, 2, 0)}, both, []int{2}, 2)
	// The second half has an item that is better than both of the first half.
	wantBoxed(t, []impl.Item{item(1, 0, 8, 0), item(2, 0, 9, 0), item(3, 0, 7, 0), item(4, 1, 9, 0)}, both, []int{3}, 4)
	// It is better than one of them only.
	wantBoxed(t, []impl.Item{item(1, 0, 8, 9), item(2, 0, 7, 9), item(3, 0, 7, 0), item(4, 1, 6, 9)}, []int{0, 1, 2}, []int{3, 4}, 4)
}

func TestBoxBestTakesTheFieldsInTurn(t *testing.T) {
	// By the field 0, the items 4 and 5 go before the others. By the field 1, the item 2 goes before the items 3 and 1, and is less than their corner 7,2.
	l := []impl.Item{item(1, 7, 3, 0), item(2, 7, 1, 0), item(3, 8, 2, 0), item(4, 1, 8, 0), item(5, 0, 9, 0)}
	wantBoxed(t, l, []int{0, 1}, []int{2, 4, 5}, 3)
	// The item 5 is less than their corner if the field 1 is not in the list.
	wantBoxed(t, l, []int{0, 2}, []int{5}, 2)
	for i := range l {
		l[i].Values[1], l[i].Values[2] = 0, l[i].Values[1]
	}
	wantBoxed(t, l, []int{0, 2}, []int{2, 4, 5}, 3)
	// Now all are equal in the field 1, so that the item 1 goes before the items 2 and 3, and is not less than their corner.
	wantBoxed(t, l, []int{0, 1, 2}, []int{2, 4, 5}, 5)
}

func TestBoxBestBeginsAgainBehindTheLastField(t *testing.T) {
	// The items 7 to 9 are in a box that has been divided by the fields 0 and 1. By the field 0, the item 7 goes before the others, for whose corner 7,6 the item 6 is less.
	l := []impl.Item{
		item(1, 1, 9, 0), item(2, 2, 9, 0), item(3, 3, 9, 0), item(4, 4, 9, 0),
		item(5, 7, 1, 0), item(6, 6, 2, 0), item(7, 5, 8, 0), item(8, 7, 7, 0), item(9, 8, 6, 0),
	}
	wantBoxed(t, l, []int{0, 1}, []int{1, 5, 6, 7}, 5)
}

// Edge case: equal values in one field.

func TestSortByFieldOfEqualValues(t *testing.T) {
	wantByField(t, numbered(5, 5, 5, 5), 0, 1, 2, 3, 4)
	wantByField(t, numbered(5, 3, 5, 3), 0, 2, 4, 1, 3)
	wantByField(t, numbered(1, 0, 1, 0, 1, 0, 1, 0, 1, 0, 1, 0, 1, 0, 1, 0), 0, 2, 4, 6, 8, 10, 12, 14, 16, 1, 3, 5, 7, 9, 11, 13, 15)
	wantByField(t, numbered(2, 1, 0, 2, 1, 0, 2, 1, 0, 2, 1, 0, 2, 1, 0, 2), 0, 3, 6, 9, 12, 15, 2, 5, 8, 11, 14, 1, 4, 7, 10, 13, 16)
	// The other fields do not matter.
	wantByField(t, []impl.Item{item(1, 9, 4, 9), item(2, 5, 4, 5), item(3, 0, 4, 0), item(4, 0, 3, 9)}, 1, 4, 1, 2, 3)
	for field := range impl.FieldCount {
		for count := range impl.MaxItems + 1 {
			wantByField(t, twins(count, 3, 0, 9), field, impl.IdsOf(twins(count, 3, 0, 9))...)
		}
	}
}

func TestSortedBestOfEqualValuesInOneField(t *testing.T) {
	both := []int{0, 1}
	// The next item has the same values as the first one, and is best too.
	wantSorted(t, []impl.Item{item(1, 1, 1, 0), item(2, 1, 1, 0), item(3, 1, 2, 0)}, both, []int{1, 2}, 4)
	wantSorted(t, []impl.Item{item(1, 1, 1, 0), item(2, 1, 1, 0), item(3, 2, 2, 0), item(4, 3, 3, 0)}, both, []int{1, 2}, 4)
	wantSorted(t, numbered(1, 1, 2, 3), []int{0}, []int{1, 2}, 2)
	wantSorted(t, numbered(2, 1, 2, 1, 1, 2), []int{0}, []int{2, 4, 5}, 3)
	// All have the same value in the field 0, so that the order there is that of the Ids.
	wantSorted(t, []impl.Item{item(1, 4, 3, 0), item(2, 4, 2, 0), item(3, 4, 1, 0)}, both, []int{3}, 4)
	wantSorted(t, []impl.Item{item(1, 4, 1, 0), item(2, 4, 2, 0), item(3, 4, 3, 0)}, both, []int{1}, 2)
	wantSorted(t, []impl.Item{item(1, 4, 3, 0), item(2, 4, 1, 0), item(3, 4, 5, 0), item(4, 4, 6, 0), item(5, 4, 7, 0)}, both, []int{2}, 4)
	// An item is read for both fields, but is less than the next one in no field before the third round.
	wantSorted(t, []impl.Item{item(1, 4, 1, 0), item(2, 4, 1, 0), item(3, 4, 1, 0), item(4, 5, 1, 0), item(5, 5, 1, 0)}, both, []int{1, 2, 3}, 6)
}

func TestBoxBestOfEqualValuesInOneField(t *testing.T) {
	both := []int{0, 1}
	// By the field 1, the items 1 to 3 keep the order that they have by the field 0.
	wantBoxed(t, []impl.Item{item(1, 9, 5, 0), item(2, 8, 5, 0), item(3, 7, 5, 0), item(4, 1, 9, 0), item(5, 0, 9, 0)}, both, []int{3, 5}, 3)
	wantBoxed(t, []impl.Item{item(1, 7, 5, 0), item(2, 8, 5, 0), item(3, 9, 5, 0), item(4, 1, 9, 0), item(5, 0, 9, 0)}, both, []int{1, 5}, 3)
	// By the field 0, all keep the order of the Ids.
	wantBoxed(t, []impl.Item{item(1, 4, 1, 0), item(2, 4, 2, 0), item(3, 4, 3, 0)}, both, []int{1}, 1)
	wantBoxed(t, []impl.Item{item(1, 4, 3, 0), item(2, 4, 2, 0), item(3, 4, 1, 0)}, both, []int{3}, 3)
	wantBoxed(t, []impl.Item{item(1, 4, 3, 0), item(2, 4, 1, 0), item(3, 4, 2, 0)}, both, []int{2}, 3)
	wantBoxed(t, numbered(4, 4, 4, 4, 4, 4), []int{0}, []int{1, 2, 3, 4, 5, 6}, 6)
	for count := range impl.MaxItems + 1 {
		l := twins(count, 3, 0, 9)
		for _, f := range fieldLists() {
			wantBoxed(t, l, f, impl.IdsOf(l), count)
		}
	}
}

func TestLowestOfEqualValuesInOneField(t *testing.T) {
	source := rand.New(rand.NewSource(90))
	for field := range impl.FieldCount {
		for range 200 {
			l := randomItems(source, source.Intn(impl.MaxItems+1), 2+source.Intn(9))
			for i := range l {
				l[i].Values[field] = 4
			}
			wantAllLowest(t, l)
			// All but one have the same value.
			if len(l) > 0 {
				l[source.Intn(len(l))].Values[field] = 3 + 2*source.Intn(2)
				wantAllLowest(t, l)
			}
		}
	}
}

// Agreement with what is found without the program, and of all ways with each other.

func TestLowestOfAllFewItems(t *testing.T) {
	for _, c := range []struct{ count, values int }{{1, 3}, {2, 3}, {3, 3}, {4, 2}, {5, 2}} {
		all := c.values * c.values
		lists := 1
		for range c.count {
			lists *= all
		}
		for n := range lists {
			var l []impl.Item
			for i, rest := 0, n; i < c.count; i, rest = i+1, rest/all {
				l = append(l, item(10*i, rest%c.values, 5, rest%all/c.values))
			}
			wantLowest(t, l, []int{0, 2})
			wantLowest(t, l, []int{0, 1})
		}
	}
}

func TestLowestAgreeWithRelations(t *testing.T) {
	source := rand.New(rand.NewSource(91))
	for range 1200 {
		wantAllLowest(t, randomItems(source, source.Intn(impl.MaxItems+1), 2+source.Intn(9)))
	}
}

func TestLowestOfManyBest(t *testing.T) {
	// Near to a line along which no item is better than another one, so that items are found late and boxes are seldom left out.
	source := rand.New(rand.NewSource(92))
	for range 600 {
		l := randomItems(source, 6+source.Intn(11), 10)
		for i := range l {
			v := l[i].Values
			v[1] = min(max(9-v[0]+source.Intn(3)-1, 0), 9)
			v[2] = min(max((v[0]+v[1])/2+source.Intn(5)-2, 0), 9)
		}
		wantAllLowest(t, l)
	}
}

func TestSortedAndBoxedFindTheSame(t *testing.T) {
	source := rand.New(rand.NewSource(93))
	for range 300 {
		l := randomItems(source, source.Intn(impl.MaxItems+1), 10)
		for _, f := range fieldLists() {
			e, _ := impl.LowExpression(f)
			best := impl.BestItems(l, e)
			sorted, readings := impl.SortedBest(l, f)
			boxed, lookedAt := impl.BoxBest(l, f)
			divided, _ := impl.DivideBest(l, e)
			blocks, _ := impl.BlockBest(l, e, 4)
			for _, found := range [][]int{sorted, boxed, divided, blocks} {
				wantIds(t, "each way", l, e, found, best)
			}
			if readings < len(best) || readings > len(l)*len(f) || readings%len(f) != 0 || lookedAt < len(best) || lookedAt > len(l) {
				t.Errorf("%d readings and %d looks for the best %v of %v by %s", readings, lookedAt, best, l, formatOfNodes(e))
			}
		}
	}
}

// Values at and beyond each limit.

func TestNumberOfItemsSortedAndBoxed(t *testing.T) {
	for count := range impl.MaxItems + 1 {
		wantAllLowest(t, tower(count))
		wantAllLowest(t, twins(count, 9, 9, 9))
		wantAllLowest(t, rivals(min(count, 10)))
	}
	for _, f := range fieldLists() {
		wantSorted(t, nil, f, nil, 0)
		wantSorted(t, []impl.Item{}, f, nil, 0)
		wantBoxed(t, nil, f, nil, 0)
		wantBoxed(t, []impl.Item{}, f, nil, 0)
		wantSorted(t, []impl.Item{item(7, 3, 0, 9)}, f, []int{7}, len(f))
		wantBoxed(t, []impl.Item{item(7, 3, 0, 9)}, f, []int{7}, 1)
	}
	for _, count := range []int{17, 18, 20, 32, 33, 256, 272, 5000} {
		many := slices.Repeat(twins(1, 1, 2, 3), count)
		for i := range many {
			many[i].Id = i
		}
		wantNoLowest(t, many)
		wantNoLowest(t, tower(count))
	}
	// Ids in the range, so that only the number of items is beyond the limit.
	row := numbered(slices.Repeat([]int{3, 1, 2}, 6)...)
	wantNoLowest(t, row)
	wantNoLowest(t, row[:17])
	wantAllLowest(t, row[:16])
	wantAllLowest(t, row[1:17])
}

func TestIdsAndValuesAtTheLimitsSortedAndBoxed(t *testing.T) {
	for field := range impl.FieldCount {
		x, y := item(0, 5, 5, 5), item(99, 5, 5, 5)
		x.Values[field], y.Values[field] = 9, 0
		l := []impl.Item{x, y}
		wantByField(t, l, field, 99, 0)
		wantSorted(t, l, []int{field}, []int{99}, 1)
		wantBoxed(t, l, []int{field}, []int{99}, 2)
		for _, v := range farValues {
			y.Values[field] = v
			wantNoLowest(t, l)
		}
		y.Values[field] = 9
		wantByField(t, l, field, 0, 99)
		wantAllLowest(t, l)
	}
	for _, id := range []int{-1, 100, math.MaxInt, math.MinInt} {
		wantNoLowest(t, []impl.Item{item(id, 1, 1, 1)})
	}
}

func TestFieldsAtAndBeyondTheLimits(t *testing.T) {
	for _, l := range [][]impl.Item{nil, {item(7, 3, 0, 9)}, fiveItems(), tower(impl.MaxItems), twins(impl.MaxItems, 0, 0, 0)} {
		wantAllLowest(t, l)
		for _, field := range farFields {
			wantByField(t, l, field)
		}
		for _, f := range invalidFieldLists() {
			wantSorted(t, l, f, nil, 0)
			wantBoxed(t, l, f, nil, 0)
		}
	}
}

// Invalid arguments.

func TestSortedAndBoxedOfInvalidItems(t *testing.T) {
	for _, x := range invalidItems() {
		wantNoLowest(t, []impl.Item{x})
		for at := range 6 {
			wantNoLowest(t, slices.Insert(validItems(5), at, x))
		}
	}
	for at := range impl.MaxItems - 1 {
		l := tower(impl.MaxItems)
		l[at], l[at+1] = l[at+1], l[at]
		wantNoLowest(t, l)
		l = tower(impl.MaxItems)
		l[at+1].Id = l[at].Id
		wantNoLowest(t, l)
	}
	wantNoLowest(t, []impl.Item{item(3, 1, 2, 3), item(3, 1, 2, 3)})
	for _, f := range invalidFieldLists() {
		wantSorted(t, []impl.Item{item(-1, 1, 2, 3)}, f, nil, 0)
		wantBoxed(t, []impl.Item{item(-1, 1, 2, 3)}, f, nil, 0)
	}
	for _, field := range farFields {
		wantByField(t, []impl.Item{item(1, 1, 2)}, field)
	}
}

// Memory and state.

func TestSortedAndBoxedShareNoMemory(t *testing.T) {
	l, f := fiveItems(), []int{0, 1, 7}
	wantItems := copyOfItems(l)
	for range 2 {
		sorted, _ := impl.SortedBest(l, f[:2])
		boxed, _ := impl.BoxBest(l, f[:2])
		for _, list := range [][]int{sorted, boxed, impl.SortByField(l, 0), impl.SortByField(l, 1), impl.SortByField(l, 2)} {
			list = list[:cap(list)]
			for i := range list {
				list[i] = 77
			}
		}
		low, _ := impl.LowExpression(f[:2])
		overwriteNodes(low)
		if !reflect.DeepEqual(l, wantItems) || !slices.Equal(f, []int{0, 1, 7}) {
			t.Fatalf("with the results, the arguments became %v and %v", l, f)
		}
		wantAllLowest(t, l)
		wantLow(t, f[:2], lowNodes(f[:2]), true)
	}
	for _, f := range fieldLists() {
		low, _ := impl.LowExpression(f)
		wantOwnNodes(t, low)
	}
}

func TestSortedAndBoxedDoNotModifyArguments(t *testing.T) {
	items := append(tower(18), item(-4, 1, 2, 3), item(3, 1, 2), item(3, 1, 2, 10))
	slices.Reverse(items[:3])
	row := []int{2, 0, 1, 2, 2, 1, 0, 3, -1}
	wantItems, wantRow := copyOfItems(items), slices.Clone(row)
	for from := range len(items) + 1 {
		for to := from; to <= len(items); to++ {
			for start := range len(row) {
				l, f := items[from:to], row[start:min(start+3, len(row))]
				impl.IsFieldList(f)
				impl.LowExpression(f)
				impl.SortedBest(l, f)
				impl.SortedBest(l, f[:1])
				impl.SortByField(l, f[0])
				impl.BoxBest(l, f)
				impl.BoxBest(l, f[:1])
			}
		}
	}
	if !reflect.DeepEqual(items, wantItems) || !slices.Equal(row, wantRow) {
		t.Errorf("the arguments became %v and %v", items, row)
	}
}

func TestSortedAndBoxedKeepNoState(t *testing.T) {
	l, f := []impl.Item{item(1, 1, 0, 0), item(2, 2, 0, 0), item(3, 1, 0, 0)}, []int{0}
	for i := range 6 {
		// The same memory holds other items in every second round, and another field in every third one.
		l[1].Values[0], f[0] = 2*(i%2), i%3
		switch {
		case f[0] != 0:
			wantSorted(t, l, f, []int{1, 2, 3}, 3)
			wantBoxed(t, l, f, []int{1, 2, 3}, 3)
			wantByField(t, l, f[0], 1, 2, 3)
			wantLow(t, f, nodes(lowWish(f[0])), true)
		case i%2 == 0:
			wantSorted(t, l, f, []int{2}, 1)
			wantBoxed(t, l, f, []int{2}, 1)
			wantByField(t, l, 0, 2, 1, 3)
		default:
			wantSorted(t, l, f, []int{1, 3}, 2)
			wantBoxed(t, l, f, []int{1, 3}, 3)
			wantByField(t, l, 0, 1, 3, 2)
		}
	}
}
