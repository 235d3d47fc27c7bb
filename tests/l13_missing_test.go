package tests

// Promise 9: possible and certain answers are those over all completions of missing values.

import (
	"math"
	"math/rand"
	"reflect"
	"slices"
	"testing"

	"loop.example/g01987/impl"
)

const missing = impl.Missing

// holesIn returns the places of missing values, found without the program.
func holesIn(l []impl.Item) [][]int {
	var holes [][]int
	for i, x := range l {
		for field := range x.Values {
			if x.Values[field] == -1 {
				holes = append(holes, []int{i, field})
			}
		}
	}
	return holes
}

// completionsOf returns all completions in their order: the first hole changes from each one to the next, the last hole most seldom.
func completionsOf(l []impl.Item) [][]impl.Item {
	all, holes := [][]impl.Item{copyOfItems(l)}, holesIn(l)
	for _, hole := range slices.Backward(holes) {
		var more [][]impl.Item
		for _, c := range all {
			for v := range 4 {
				next := copyOfItems(c)
				next[hole[0]].Values[hole[1]] = v
				more = append(more, next)
			}
		}
		all = more
	}
	return all
}

// outlookOf returns the possible and the certain answers for valid arguments, found without the program.
func outlookOf(l []impl.Item, e []impl.Node) (possible, certain []int) {
	completions := completionsOf(l)
	for _, x := range l {
		times := 0
		for _, c := range completions {
			if slices.Contains(answersOf(c, e).best, x.Id) {
				times++
			}
		}
		if times > 0 {
			possible = append(possible, x.Id)
		}
		if times == len(completions) {
			certain = append(certain, x.Id)
		}
	}
	return possible, certain
}

// numbersAround returns the numbers of so many completions, and some that are just beyond the limits and far from them.
func numbersAround(count int) []int {
	numbers := []int{-1, -2, -3, -4, -16, -64, count, count + 1, count + 2, count + 4, 4*count + 1, 255, 256, 1 << 32, 1<<32 + 1, math.MaxInt, math.MaxInt - 2, math.MinInt, math.MinInt + 1}
	for n := range count {
		numbers = append(numbers, n)
	}
	return numbers
}

func wantHoles(t *testing.T, l []impl.Item, want ...[]int) {
	t.Helper()
	if got := impl.HolesOf(l); !slices.EqualFunc(got, want, slices.Equal) {
		t.Errorf("HolesOf(%v) = %v, want %v", l, got, want)
	}
}

// wantPartial checks IsPartial, and CountCompletions, which is 0 for items that are not.
func wantPartial(t *testing.T, l []impl.Item, completions int) {
	t.Helper()
	if got := impl.IsPartial(l); got != (completions > 0) {
		t.Errorf("IsPartial(%v) = %t", l, got)
	}
	if got := impl.CountCompletions(l); got != completions {
		t.Errorf("CountCompletions(%v) = %d, want %d", l, got, completions)
	}
}

func wantCompletion(t *testing.T, l []impl.Item, n int, want []impl.Item) {
	t.Helper()
	if got := impl.CompletionAt(l, n); !slices.EqualFunc(got, want, isSameItem) {
		t.Errorf("CompletionAt(%v, %d) = %v, want %v", l, n, got, want)
	}
}

// isSameItem takes nil and empty values for the same.
func isSameItem(x, y impl.Item) bool {
	return x.Id == y.Id && slices.Equal(x.Values, y.Values)
}

// wantFilled checks all that does not depend on an expression, for valid items.
func wantFilled(t *testing.T, l []impl.Item) {
	t.Helper()
	completions := completionsOf(l)
	wantHoles(t, l, holesIn(l)...)
	wantPartial(t, l, len(completions))
	for _, n := range numbersAround(len(completions)) {
		if n < 0 || n >= len(completions) {
			wantCompletion(t, l, n, nil)
		} else {
			wantCompletion(t, l, n, completions[n])
		}
	}
}

func wantOutlook(t *testing.T, l []impl.Item, e []impl.Node, possible, certain []int) {
	t.Helper()
	wantIds(t, "PossibleBest", l, e, impl.PossibleBest(l, e), possible)
	wantIds(t, "CertainBest", l, e, impl.CertainBest(l, e), certain)
}

// wantOutlookAsFound checks both answers for valid arguments against what is found without the program.
func wantOutlookAsFound(t *testing.T, l []impl.Item, e []impl.Node) {
	t.Helper()
	possible, certain := outlookOf(l, e)
	wantOutlook(t, l, e, possible, certain)
}

// wantNotPartial checks the fixed results of items that are not valid.
func wantNotPartial(t *testing.T, l []impl.Item) {
	t.Helper()
	wantHoles(t, l, holesIn(l)...)
	wantPartial(t, l, 0)
	for _, n := range numbersAround(4) {
		wantCompletion(t, l, n, nil)
	}
	for _, e := range [][]impl.Node{rivalOrder(), nodes(lowWish(2)), nodes(amongWish(1, 3), impl.OpDual), nil, nodes(lowWish(3))} {
		wantOutlook(t, l, e, nil, nil)
	}
}

// withHoles returns a copy of the items that lacks the values at some places, which are counted through all items.
func withHoles(l []impl.Item, places ...int) []impl.Item {
	c := copyOfItems(l)
	for _, place := range places {
		c[place/impl.FieldCount].Values[place%impl.FieldCount] = missing
	}
	return c
}

// somePlaces returns places of so many items, at most as many as there may be holes.
func somePlaces(source *rand.Rand, items int) []int {
	places := source.Perm(items * impl.FieldCount)
	return places[:min(len(places), source.Intn(impl.MaxHoles+1))]
}

// threePartial returns items of which each one lacks another value.
func threePartial() []impl.Item {
	return []impl.Item{item(1, missing, 5, 0), item(2, 2, missing, 0), item(3, 3, 3, missing)}
}

func TestConstantsOfMissingValues(t *testing.T) {
	if impl.Missing != -1 || impl.MaxHoles != 3 || impl.MaxFill != 3 {
		t.Errorf("constants %d, %d, %d", impl.Missing, impl.MaxHoles, impl.MaxFill)
	}
}

func TestHolesOf(t *testing.T) {
	wantHoles(t, nil)
	wantHoles(t, []impl.Item{})
	wantHoles(t, fiveItems())
	wantHoles(t, threePartial(), []int{0, 0}, []int{1, 1}, []int{2, 2})
	wantHoles(t, []impl.Item{item(1, 3, missing, missing)}, []int{0, 1}, []int{0, 2})
	wantHoles(t, []impl.Item{item(1, 3, 4, 5), item(2, 3, missing, 5), item(3, missing, 4, missing)}, []int{1, 1}, []int{2, 0}, []int{2, 2})
	wantHoles(t, []impl.Item{item(4, missing, missing, missing), item(5, missing, missing, missing)}, []int{0, 0}, []int{0, 1}, []int{0, 2}, []int{1, 0}, []int{1, 1}, []int{1, 2})
}

func TestHolesOfAnyItems(t *testing.T) {
	// An Id is no value, and neither is what stands behind the end.
	row := []int{missing, 0, missing, missing}
	wantHoles(t, []impl.Item{item(missing, 0, 0, 0), {Id: 1, Values: row[:2]}, {Id: 2, Values: row[1:2]}, {Id: 3, Values: row[:0]}}, []int{1, 0})
	// No other value is missing, however near or far.
	for _, v := range append([]int{0, 1, 9, 1<<32 - 1, 1<<31 - 1, 1<<63 - 1, -1 << 31, 255, 65535}, farValues...) {
		if v == missing {
			continue
		}
		wantHoles(t, []impl.Item{item(1, v, v, v)})
		wantHoles(t, []impl.Item{item(1, v, missing, v), item(1, missing)}, []int{0, 1}, []int{1, 0})
	}
	// More items and values than are valid, in any order.
	wantHoles(t, []impl.Item{item(7, 0, 0, 0, 0, missing), {}, item(7), item(3, missing), item(-5, 1, missing)}, []int{0, 4}, []int{3, 0}, []int{4, 1})
	var many []impl.Item
	var want [][]int
	for i := range 3000 {
		many = append(many, item(100-i, i, missing, 3, missing))
		want = append(want, []int{i, 1}, []int{i, 3})
	}
	wantHoles(t, many, want...)
	wantNotPartial(t, many)
	long := impl.Item{Id: 4, Values: slices.Repeat([]int{missing}, 3000)}
	want = nil
	for field := range 3000 {
		want = append(want, []int{1, field})
	}
	wantHoles(t, []impl.Item{{}, long}, want...)
	wantNotPartial(t, []impl.Item{long})
}

func TestIsPartial(t *testing.T) {
	for _, c := range []struct {
		l           []impl.Item
		completions int
	}{
		{nil, 1},
		{[]impl.Item{}, 1},
		{fiveItems(), 1},
		{[]impl.Item{item(5, missing, 0, 9)}, 4},
		{[]impl.Item{item(5, 9, missing, 0)}, 4},
		{[]impl.Item{item(5, 0, 9, missing)}, 4},
		{[]impl.Item{item(5, missing, missing, 9)}, 16},
		{[]impl.Item{item(5, missing, 0, 0), item(6, 0, missing, 0)}, 16},
		{[]impl.Item{item(5, missing, 0, 0), item(6, missing, 0, 0)}, 16},
		{threePartial(), 64},
		{[]impl.Item{item(5, missing, missing, 0), item(6, 0, missing, 0)}, 64},
		{[]impl.Item{item(5, missing, missing, 0), item(6, 0, missing, missing)}, 0},
		{[]impl.Item{item(5, missing, 0, 0), item(5, missing, 0, 0)}, 0},
		{[]impl.Item{item(6, missing, 0, 0), item(5, 0, 0, 0)}, 0},
		{[]impl.Item{item(5, missing, -2, 0)}, 0},
		{[]impl.Item{item(5, missing, 10, 0)}, 0},
		{[]impl.Item{item(5, missing, 0)}, 0},
		{[]impl.Item{item(5, missing, 0, 0, 0)}, 0},
		{[]impl.Item{item(missing, missing, 0, 0)}, 0},
		{[]impl.Item{item(100, missing, 0, 0)}, 0},
		{append(fiveItems(), item(6, missing, missing, missing)), 64},
		{append(fiveItems(), item(5, missing, missing, missing)), 0},
	} {
		wantPartial(t, c.l, c.completions)
		if c.completions > 0 {
			wantFilled(t, c.l)
		} else {
			wantNotPartial(t, c.l)
		}
	}
}

// combinations returns all lists of so many of the values.
func combinations(length int, values ...int) [][]int {
	lists := [][]int{nil}
	for range length {
		var longer [][]int
		for _, list := range lists {
			for _, v := range values {
				longer = append(longer, slices.Concat(list, []int{v}))
			}
		}
		lists = longer
	}
	return lists
}

func TestPartialItemsOfAllValues(t *testing.T) {
	for _, values := range combinations(6, -2, -1, 0, 9, 10) {
		l := []impl.Item{item(4, values[:3]...), item(5, values[3:]...)}
		completions := 1
		for range holesIn(l) {
			completions *= 4
		}
		if completions > 64 || slices.Contains(values, -2) || slices.Contains(values, 10) {
			completions = 0
		}
		wantPartial(t, l, completions)
	}
	for _, values := range combinations(3, math.MinInt, -3, -2, -1, 0, 1, 3, 4, 8, 9, 10, 11, math.MaxInt) {
		isValid := slices.Min(values) >= -1 && slices.Max(values) <= 9
		if l := []impl.Item{item(0, values...)}; isValid {
			wantFilled(t, l)
		} else {
			wantNotPartial(t, l)
		}
	}
}

func TestCompletionAt(t *testing.T) {
	l := threePartial()
	for n, fill := range map[int][]int{
		0: {0, 0, 0}, 1: {1, 0, 0}, 2: {2, 0, 0}, 3: {3, 0, 0}, 4: {0, 1, 0}, 5: {1, 1, 0}, 6: {2, 1, 0}, 8: {0, 2, 0}, 15: {3, 3, 0},
		16: {0, 0, 1}, 17: {1, 0, 1}, 20: {0, 1, 1}, 27: {3, 2, 1}, 32: {0, 0, 2}, 48: {0, 0, 3}, 60: {0, 3, 3}, 63: {3, 3, 3},
	} {
		wantCompletion(t, l, n, []impl.Item{item(1, fill[0], 5, 0), item(2, 2, fill[1], 0), item(3, 3, 3, fill[2])})
		one := []impl.Item{item(9, missing, missing, missing)}
		wantCompletion(t, one, n, []impl.Item{item(9, fill...)})
		two := []impl.Item{item(8, 7, missing, missing), item(9, 6, 5, missing)}
		wantCompletion(t, two, n, []impl.Item{item(8, 7, fill[0], fill[1]), item(9, 6, 5, fill[2])})
	}
	wantCompletion(t, l, 64, nil)
	wantCompletion(t, l, -1, nil)
	// Without a hole, there is one completion, the items themselves.
	wantCompletion(t, fiveItems(), 0, fiveItems())
	wantCompletion(t, fiveItems(), 1, nil)
	wantCompletion(t, fiveItems(), -1, nil)
	for _, n := range numbersAround(1) {
		wantCompletion(t, nil, n, nil)
		wantCompletion(t, []impl.Item{}, n, nil)
	}
}

// allPlaces returns all lists of at most so many of the places, each in ascending order.
func allPlaces(places, most int) [][]int {
	lists := [][]int{nil}
	for place := range places {
		for _, list := range lists {
			if len(list) < most {
				lists = append(lists, slices.Concat(list, []int{place}))
			}
		}
	}
	return lists
}

func TestCompletionsForAllPlaces(t *testing.T) {
	expressions := [][]impl.Node{rivalOrder(), towerOrder(), nodes(nearWish(2, 2)), nodes(highWish(1), orderWish(0, pairs(2, 1, 1, 3)), impl.OpMeet)}
	for i, places := range allPlaces(9, 5) {
		l := withHoles(threeItems(), places...)
		if len(places) > impl.MaxHoles {
			wantNotPartial(t, l)
			continue
		}
		wantFilled(t, l)
		wantOutlookAsFound(t, l, expressions[i%len(expressions)])
	}
}

func TestPossibleAndCertainBest(t *testing.T) {
	for s, want := range map[string][2][]int{
		"low f0":                   {{1, 2}, nil},
		"high f0":                  {{1, 3}, {3}},
		"low f1":                   {{2, 3}, {2}},
		"high f1":                  {{1}, {1}},
		"low f2":                   {{1, 2, 3}, {1, 2}},
		"high f2":                  {{1, 2, 3}, {3}},
		"low f2; not":              {{1, 2, 3}, {3}},
		"near f0 1":                {{1, 2}, nil},
		"near f0 3":                {{1, 3}, {3}},
		"near f2 9":                {{1, 2, 3}, {3}},
		"among f0 2":               {{1, 2}, {2}},
		"among f0 7":               {{1, 2, 3}, {1, 2, 3}},
		"order f0 none":            {{1, 2, 3}, {1, 2, 3}},
		"order f0 3>2":             {{1, 3}, {3}},
		"order f0 1>2,1>3":         {{1, 2, 3}, {1}},
		"low f0; low f1; and":      {{1, 2}, {2}},
		"low f0; low f1; and; not": {{1, 3}, {1}},
		"low f0; low f1; then":     {{1, 2}, nil},
		"low f0; high f1; then":    {{1, 2}, nil},
		"high f1; low f0; then":    {{1}, {1}},
		"low f0; low f1; both":     {{1, 2, 3}, {2}},
	} {
		wantOutlookAsFound(t, threePartial(), reading(t, s))
		wantOutlook(t, threePartial(), reading(t, s), want[0], want[1])
	}
}

func TestAnswersWithoutHoles(t *testing.T) {
	for _, e := range someExpressions(1) {
		wantOutlook(t, nil, e, nil, nil)
		wantOutlook(t, []impl.Item{}, e, nil, nil)
		best := answersOf(fiveItems(), e).best
		wantOutlook(t, fiveItems(), e, best, best)
		wantOutlook(t, []impl.Item{item(99, 0, 9, 0)}, e, []int{99}, []int{99})
	}
}

func TestHolesThatDoNotMatter(t *testing.T) {
	for _, places := range allPlaces(5, impl.MaxHoles) {
		l := fiveItems()
		for _, i := range places {
			l[i].Values[2] = missing
		}
		wantOutlook(t, l, rivalOrder(), []int{1, 2, 3}, []int{1, 2, 3})
		wantOutlook(t, l, towerOrder(), []int{1}, []int{1})
		wantOutlook(t, l, nodes(nearWish(1, 4)), []int{4}, []int{4})
	}
}

func TestAnItemIsAlwaysPossible(t *testing.T) {
	// Each completion has best items, but these may be others each time, so that none is certain.
	l := []impl.Item{item(1, missing, 0, 0), item(2, missing, 0, 0), item(3, missing, 0, 0)}
	for _, w := range []impl.Wish{lowWish(0), highWish(0), nearWish(0, 0), nearWish(0, 9), amongWish(0, 2), orderWish(0, pairs(3, 0, 0, 1))} {
		wantOutlook(t, l, nodes(w), []int{1, 2, 3}, nil)
		wantOutlook(t, l, nodes(w, impl.OpDual), []int{1, 2, 3}, nil)
	}
	wantOutlook(t, l, nodes(lowWish(1)), []int{1, 2, 3}, []int{1, 2, 3})
	wantOutlook(t, l, nodes(amongWish(0, 4)), []int{1, 2, 3}, []int{1, 2, 3})
	for _, known := range []int{1, 2, 3} {
		c := slices.Clone(l)
		c[known-1] = item(known, 4, 0, 0)
		others := slices.DeleteFunc([]int{1, 2, 3}, func(id int) bool { return id == known })
		wantOutlook(t, c, nodes(lowWish(0)), others, nil)
		wantOutlook(t, c, nodes(highWish(0)), []int{known}, []int{known})
	}
}

func TestOneCompletionDecides(t *testing.T) {
	l := []impl.Item{item(3, missing, missing, missing), item(7, 9, 9, 9)}
	for n := range 64 {
		a, b, c := n%4, n/4%4, n/16
		// In this completion only, the first item is better than the second one.
		wins := nodes(orderWish(0, pairs(a, 9)), orderWish(1, pairs(b, 9)), impl.OpMeet, orderWish(2, pairs(c, 9)), impl.OpMeet)
		wantOutlook(t, l, wins, []int{3, 7}, []int{3})
		wantOutlook(t, l, nodes(wins, impl.OpDual), []int{3, 7}, []int{7})
		// In this completion only, the second item is not better than the first one.
		draws := nodes(amongWish(0, a, 9), amongWish(1, b, 9), impl.OpPareto, amongWish(2, c, 9), impl.OpPareto)
		wantOutlook(t, l, draws, []int{3, 7}, []int{7})
		wantOutlook(t, l, nodes(draws, impl.OpDual), []int{3, 7}, []int{3})
	}
}

func TestAnswersAgreeWithCompletions(t *testing.T) {
	source := rand.New(rand.NewSource(130))
	for _, e := range someExpressions(1) {
		l := randomItems(source, 1+source.Intn(5), 2+source.Intn(8))
		l = withHoles(l, somePlaces(source, len(l))...)
		wantOutlookAsFound(t, l, e)
	}
}

func TestCompletionsOfRandomItems(t *testing.T) {
	source := rand.New(rand.NewSource(131))
	for range 300 {
		l := randomItems(source, source.Intn(impl.MaxItems+1), 1+source.Intn(10))
		wantFilled(t, withHoles(l, somePlaces(source, len(l))...))
	}
}

// Edge case: an item without any value.

func TestItemWithoutAnyValue(t *testing.T) {
	for at := range 6 {
		id := 10*at + 5
		l := []impl.Item{item(10, 2, 5, 0), item(20, 3, 3, 0), item(30, 5, 1, 0), item(40, 4, 4, 0), item(50, 3, 5, 0)}
		l = slices.Insert(l, at, item(id, missing, missing, missing))
		wantHoles(t, l, []int{at, 0}, []int{at, 1}, []int{at, 2})
		wantPartial(t, l, 64)
		wantFilled(t, l)
		both := []int{min(id, 10), max(id, 10)}
		wantOutlook(t, l, nodes(lowWish(0)), both, nil)
		wantOutlook(t, l, nodes(nearWish(0, 1)), both, nil)
		wantOutlook(t, l, nodes(nearWish(0, 2)), both, []int{10})
		wantOutlook(t, l, nodes(highWish(0)), []int{30}, []int{30})
		wantOutlook(t, l, nodes(amongWish(1, 4)), []int{40}, []int{40})
		wantOutlook(t, l, nodes(highWish(2)), impl.IdsOf(l), []int{id})
		for _, e := range [][]impl.Node{rivalOrder(), towerOrder(), nodes(lowWish(2)), nodes(rivalOrder(), impl.OpDual), nodes(rivalOrder(), highWish(2), impl.OpMeet)} {
			wantOutlookAsFound(t, l, e)
		}
	}
}

func TestOnlyAnItemWithoutAnyValue(t *testing.T) {
	for _, id := range []int{0, 1, 3, 64, 99} {
		l := []impl.Item{item(id, missing, missing, missing)}
		wantFilled(t, l)
		for i, values := range combinations(3, 0, 1, 2, 3) {
			// The last hole changes most seldom, not most often as in the combinations.
			n := i/16 + i/4%4*4 + i%4*16
			wantCompletion(t, l, n, []impl.Item{item(id, values...)})
		}
		for _, e := range someExpressions(1) {
			wantOutlook(t, l, e, []int{id}, []int{id})
		}
	}
}

func TestItemWithoutAnyValueAndOtherHoles(t *testing.T) {
	empty := item(4, missing, missing, missing)
	for field := range impl.FieldCount {
		for _, id := range []int{3, 5} {
			x := item(id, 1, 1, 1)
			l := []impl.Item{empty, x}
			if id < 4 {
				l = []impl.Item{x, empty}
			}
			wantFilled(t, l)
			wantOutlookAsFound(t, l, rivalOrder())
			x.Values[field] = missing
			wantNotPartial(t, l)
		}
	}
	wantNotPartial(t, []impl.Item{empty, item(5, missing, missing, missing)})
	wantNotPartial(t, []impl.Item{empty, empty})
	for count := range impl.MaxItems {
		l := append(validItems(count), item(90, missing, missing, missing))
		wantFilled(t, l)
		l[0].Values[0] = missing
		if count > 0 {
			wantNotPartial(t, l)
		}
	}
}

func TestItemWithAnEmptyListOfValues(t *testing.T) {
	// Such an item has no hole that could be filled, so it stays invalid.
	for _, x := range []impl.Item{{Id: 4}, {Id: 4, Values: []int{}}, {Id: 4, Values: []int{1, 2, 3}[:0]}, {}} {
		wantHoles(t, []impl.Item{x})
		wantNotPartial(t, []impl.Item{x})
		wantNotPartial(t, []impl.Item{x, item(5, 1, 2, 3)})
		wantNotPartial(t, []impl.Item{x, item(5, missing, 2, 3)})
		wantHoles(t, []impl.Item{x, item(5, missing, missing, missing)}, []int{1, 0}, []int{1, 1}, []int{1, 2})
		wantNotPartial(t, []impl.Item{x, item(5, missing, missing, missing)})
	}
}

// Values at and beyond each limit.

func TestNumberOfHoles(t *testing.T) {
	for count := range impl.MaxItems * impl.FieldCount {
		var places []int
		for place := range count {
			places = append(places, place)
		}
		first := withHoles(tower(impl.MaxItems), places...)
		for i := range places {
			places[i] = impl.MaxItems*impl.FieldCount - 1 - i
		}
		last := withHoles(tower(impl.MaxItems), places...)
		for _, l := range [][]impl.Item{first, last} {
			if count > impl.MaxHoles {
				wantNotPartial(t, l)
				continue
			}
			wantFilled(t, l)
			wantPartial(t, l, []int{1, 4, 16, 64}[count])
			wantOutlookAsFound(t, l, towerOrder())
		}
	}
}

func TestNumberOfPartialItems(t *testing.T) {
	for count := range impl.MaxItems + 1 {
		l := tower(count)
		for i := range min(count, impl.MaxHoles) {
			l[count-1-i].Values[i] = missing
		}
		wantFilled(t, l)
		wantOutlookAsFound(t, l, towerOrder())
	}
	for _, count := range []int{17, 18, 19} {
		wantNotPartial(t, tower(count))
		wantNotPartial(t, withHoles(tower(count), 4))
		wantNotPartial(t, withHoles(tower(count), 0, 1, 3*count-1))
	}
	for _, count := range []int{32, 256, 5000} {
		wantNotPartial(t, tower(count))
	}
}

func TestGreatestFill(t *testing.T) {
	for v := range impl.MaxValue + 1 {
		for field := range impl.FieldCount {
			x, y := item(1, 5, 5, 5), item(2, 5, 5, 5)
			x.Values[field], y.Values[field] = missing, v
			l := []impl.Item{x, y}
			if v <= impl.MaxFill {
				wantOutlook(t, l, nodes(highWish(field)), []int{1, 2}, [][]int{{1}, nil, nil, {2}}[v])
				wantOutlook(t, l, nodes(lowWish(field)), []int{1, 2}, [][]int{{2}, nil, nil, {1}}[v])
				wantOutlook(t, l, nodes(nearWish(field, v)), []int{1, 2}, []int{2})
				wantOutlook(t, l, nodes(amongWish(field, v), impl.OpDual), []int{1, 2}, []int{1})
			} else {
				wantOutlook(t, l, nodes(highWish(field)), []int{2}, []int{2})
				wantOutlook(t, l, nodes(lowWish(field)), []int{1}, []int{1})
				wantOutlook(t, l, nodes(nearWish(field, v)), []int{2}, []int{2})
				wantOutlook(t, l, nodes(amongWish(field, v), impl.OpDual), []int{1}, []int{1})
			}
		}
	}
}

func TestIdsAtTheLimitsOfPartialItems(t *testing.T) {
	l := []impl.Item{item(0, missing, 0, 9), item(99, 9, missing, 0)}
	wantFilled(t, l)
	wantOutlookAsFound(t, l, rivalOrder())
	wantOutlook(t, l, nodes(lowWish(0)), []int{0}, []int{0})
	wantOutlook(t, l, nodes(lowWish(2)), []int{99}, []int{99})
	for _, id := range []int{-1, -2, math.MinInt} {
		wantNotPartial(t, []impl.Item{item(id, missing, 0, 9), item(99, 9, missing, 0)})
		wantNotPartial(t, []impl.Item{item(id, 1, 0, 9)})
	}
	for _, id := range []int{100, 101, 1 << 8, 1 << 32, math.MaxInt} {
		wantNotPartial(t, []impl.Item{item(0, missing, 0, 9), item(id, 9, missing, 0)})
		wantNotPartial(t, []impl.Item{item(id, 1, 0, 9)})
	}
}

func TestValuesBeyondTheLimitBesideHoles(t *testing.T) {
	for place := range 6 {
		for _, v := range farValues {
			l := withHoles([]impl.Item{item(4, 1, 2, 3), item(5, 1, 2, 4)}, (place+1)%6)
			l[place/3].Values[place%3] = v
			if v == missing {
				wantFilled(t, l)
			} else {
				wantNotPartial(t, l)
			}
		}
		for _, v := range []int{0, 4, 9} {
			l := withHoles([]impl.Item{item(4, 1, 2, 3), item(5, 1, 2, 4)}, (place+1)%6, (place+3)%6)
			l[place/3].Values[place%3] = v
			wantFilled(t, l)
		}
	}
}

func TestOutlookAtAndBeyondTheLimitOfNodes(t *testing.T) {
	source := rand.New(rand.NewSource(132))
	for _, e := range [][]impl.Node{
		nodes(lowWish(0), slices.Repeat(nodes(lowWish(1), impl.OpPrior), 4)),
		nodes(lowWish(0), slices.Repeat(nodes(highWish(2), impl.OpPareto), 4)),
		nodes(nearWish(1, 2), slices.Repeat(nodes(impl.OpDual), 8)),
	} {
		for range 5 {
			l := randomItems(source, 6, 4)
			wantOutlookAsFound(t, withHoles(l, somePlaces(source, len(l))...), e)
		}
		wantOutlookAsFound(t, threePartial(), e)
		wantOutlook(t, threePartial(), nodes(e, impl.OpDual), nil, nil)
		wantOutlook(t, threePartial(), nodes(e, lowWish(0), impl.OpMeet), nil, nil)
	}
}

// Invalid arguments.

func TestOutlookOfInvalidExpressions(t *testing.T) {
	for _, e := range invalidExpressions() {
		for _, l := range [][]impl.Item{nil, fiveItems(), threePartial(), {item(7, missing, missing, missing)}, {item(7, 1, 2, 3)}, {item(-1, 1, 2, 3)}} {
			wantOutlook(t, l, e, nil, nil)
		}
	}
	wantOutlook(t, threePartial(), nil, nil, nil)
	wantOutlook(t, threePartial(), []impl.Node{}, nil, nil)
}

func TestInvalidPartialItems(t *testing.T) {
	for _, x := range invalidItems() {
		if slices.Contains(x.Values, missing) {
			wantFilled(t, []impl.Item{x})
			continue
		}
		wantNotPartial(t, []impl.Item{x})
		for at := range 4 {
			l := []impl.Item{item(0, missing, 2, 3), item(2, 1, missing, 3), item(99, 1, 2, 3)}
			wantNotPartial(t, slices.Insert(l, at, x))
		}
	}
	for at := range 4 {
		l := withHoles(tower(5), 0, 14)
		l[at], l[at+1] = l[at+1], l[at]
		wantNotPartial(t, l)
		l = withHoles(tower(5), 0, 14)
		l[at+1].Id = l[at].Id
		wantNotPartial(t, l)
	}
}

func TestItemsWithHolesAndMoreOrFewerValues(t *testing.T) {
	for _, values := range [][]int{
		{missing}, {missing, missing}, {missing, 1}, {1, missing}, {missing, 1, 2, 3}, {1, 2, 3, missing}, {missing, missing, missing, 3},
		{missing, missing, missing, missing}, {1, 2, 3, missing, missing, missing}, {1, 2, 3, missing, missing, missing, missing},
	} {
		wantNotPartial(t, []impl.Item{item(1, values...)})
		wantNotPartial(t, []impl.Item{item(1, values...), item(2, 1, 2, 3)})
		wantNotPartial(t, []impl.Item{item(0, 1, 2, 3), item(1, values...)})
	}
}

func TestPartialItemsTakeEmptyListsForNil(t *testing.T) {
	e := []impl.Node{
		{Wish: impl.Wish{List: []int{}, Pairs: []impl.Pair{}}},
		{Wish: impl.Wish{Field: 1, List: []int{7}[:0]}},
		{Op: impl.OpPareto, Wish: impl.Wish{List: []int{}, Pairs: pairs(0, 1)[:0]}},
	}
	wantOutlook(t, threePartial(), e, []int{1, 2}, []int{2})
}

// Memory and state.

// valuesOf returns the lists of values themselves, not copies.
func valuesOf(l []impl.Item) [][]int {
	var lists [][]int
	for _, x := range l {
		lists = append(lists, x.Values)
	}
	return lists
}

func TestCompletionsShareNoMemory(t *testing.T) {
	for _, l := range [][]impl.Item{threePartial(), fiveItems(), {item(4, missing, missing, missing), item(5, 1, 2, 3)}, withHoles(tower(16), 3, 40)} {
		want := copyOfItems(l)
		n := impl.CountCompletions(l) - 1
		first, second := impl.CompletionAt(l, n), impl.CompletionAt(l, n)
		wantOwnLists(t, slices.Concat(valuesOf(first), valuesOf(second)))
		if !reflect.DeepEqual(l, want) {
			t.Fatalf("with the completions, the items became %v", l)
		}
		first, second = impl.CompletionAt(l, n), impl.CompletionAt(l, n)
		clear(first[:cap(first)])
		if !reflect.DeepEqual(l, want) || !reflect.DeepEqual(second, impl.CompletionAt(l, n)) {
			t.Fatalf("with a completion, the items became %v, and another one %v", l, second)
		}
		wantFilled(t, l)
	}
}

func TestAnswersOfPartialItemsShareNoMemory(t *testing.T) {
	for _, l := range [][]impl.Item{threePartial(), fiveItems(), withHoles(tower(16), 3, 4, 40)} {
		e := nodes(amongWish(0, 2, 3), orderWish(1, pairs(3, 5, 5, 4)), impl.OpPrior)
		wantItems, wantNodes := copyOfItems(l), copyOfNodes(e)
		for range 2 {
			lists := slices.Concat(impl.HolesOf(l), impl.HolesOf(l))
			for range 2 {
				lists = append(lists, impl.PossibleBest(l, e), impl.CertainBest(l, e))
			}
			wantOwnLists(t, lists)
			if !reflect.DeepEqual(l, wantItems) || !reflect.DeepEqual(e, wantNodes) {
				t.Fatalf("with the answers, the arguments became %v and %v", l, e)
			}
			wantOutlookAsFound(t, l, e)
		}
	}
}

func TestItemsThatShareTheirValues(t *testing.T) {
	row := []int{1, missing, 2, 0}
	l := []impl.Item{{Id: 1, Values: row[:3]}, {Id: 2, Values: row[:3]}, {Id: 3, Values: row[1:]}}
	wantFilled(t, l)
	wantCompletion(t, l, 27, []impl.Item{item(1, 1, 3, 2), item(2, 1, 2, 2), item(3, 1, 2, 0)})
	wantOutlookAsFound(t, l, nodes(lowWish(1)))
	if !slices.Equal(row, []int{1, missing, 2, 0}) {
		t.Errorf("the values became %v", row)
	}
}

func TestPartialItemsAreNotModified(t *testing.T) {
	row := []int{missing, 2, missing, 0, 3, missing, missing, 10, 1}
	var items []impl.Item
	for start := range len(row) {
		items = append(items, impl.Item{Id: start, Values: row[start:min(start+3, len(row))]})
	}
	e := nodes(amongWish(0, 1, 3), orderWish(1, pairs(2, 1, 1, 0)), impl.OpMeet, nearWish(0, 12), -7)
	wantItems, wantNodes, wantRow := copyOfItems(items), copyOfNodes(e), slices.Clone(row)
	for from := range len(items) {
		for to := from; to <= len(items); to++ {
			for end := range len(e) + 1 {
				l := items[from:to]
				impl.HolesOf(l)
				impl.CompletionAt(l, end)
				impl.PossibleBest(l, e[:end])
				impl.CertainBest(l, e[:end])
			}
		}
	}
	if !reflect.DeepEqual(items, wantItems) || !reflect.DeepEqual(e, wantNodes) || !slices.Equal(row, wantRow) {
		t.Errorf("the arguments became %v and %v", items, e)
	}
}

func TestPartialItemsKeepNoState(t *testing.T) {
	l, e := threePartial(), rivalOrder()
	for i := range 12 {
		// The same memory holds another hole in every second and another wish in every third round, and one item less in every fourth one.
		l[0].Values[0], l[0].Values[1] = []int{missing, 3}[i%2], []int{5, missing}[i%2]
		e[0].Wish.Kind = []int{impl.WishLow, impl.WishHigh, impl.WishLow}[i%3]
		c := l[:3-i%4/3]
		wantFilled(t, c)
		wantOutlookAsFound(t, c, e)
		wantOutlook(t, c, e[:2], nil, nil)
	}
}
