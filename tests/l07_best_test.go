package tests

// Promise 5, as far as BestItems and what it is made of go: the answer contains exactly the items that no other one is better than.

import (
	"math"
	"math/rand"
	"reflect"
	"slices"
	"testing"

	"loop.example/g01987/impl"
)

// answers is what chapter 7 says of items and an expression. Each list of better and worse Ids belongs to the item at the same index.
type answers struct {
	best          []int
	better, worse [][]int
	width         int
}

// answersOf finds the answers for valid arguments without the program.
func answersOf(l []impl.Item, e []impl.Node) answers {
	r, a := relationOf(e, l), answers{}
	for i, x := range l {
		var better, worse []int
		for j, y := range l {
			if r.better[j][i] {
				better = append(better, y.Id)
			}
			if r.better[i][j] {
				worse = append(worse, y.Id)
			}
		}
		if better == nil {
			a.best = append(a.best, x.Id)
		}
		a.better, a.worse = append(a.better, better), append(a.worse, worse)
		a.width = max(a.width, len(l)-len(better)-len(worse))
	}
	return a
}

// askedIds returns all valid Ids and some that are out of range.
func askedIds() []int {
	ids := []int{-1, -2, -99, 100, 101, 1 << 8, 1 << 32, 1<<32 + 1, 1<<32 + 5, math.MaxInt, math.MinInt}
	for id := range 100 {
		ids = append(ids, id)
	}
	return ids
}

func wantIds(t *testing.T, name string, l []impl.Item, e []impl.Node, got, want []int) {
	t.Helper()
	if !slices.Equal(got, want) {
		t.Errorf("%s of %v by %s = %v, want %v", name, l, formatOfNodes(e), got, want)
	}
}

func wantNumber(t *testing.T, name string, l []impl.Item, e []impl.Node, got, want int) {
	t.Helper()
	if got != want {
		t.Errorf("%s of %v by %s = %d, want %d", name, l, formatOfNodes(e), got, want)
	}
}

// wantBest checks BestItems, and IsBest for all Ids.
func wantBest(t *testing.T, l []impl.Item, e []impl.Node, want ...int) {
	t.Helper()
	wantIds(t, "BestItems", l, e, impl.BestItems(l, e), want)
	for _, id := range askedIds() {
		if impl.IsBest(l, e, id) != slices.Contains(want, id) {
			t.Errorf("IsBest(%d) of %v by %s = %t", id, l, formatOfNodes(e), impl.IsBest(l, e, id))
		}
	}
}

// wantAround checks the answers for an item that is there.
func wantAround(t *testing.T, l []impl.Item, e []impl.Node, id int, better, worse []int) {
	t.Helper()
	wantIds(t, "DominatorsOf", l, e, impl.DominatorsOf(l, e, id), better)
	wantIds(t, "DominatedBy", l, e, impl.DominatedBy(l, e, id), worse)
	wantNumber(t, "RankOf", l, e, impl.RankOf(l, e, id), len(better))
}

// wantNothing checks the answers for an Id that no item has, or for arguments that are not valid.
func wantNothing(t *testing.T, l []impl.Item, e []impl.Node, id int) {
	t.Helper()
	wantIds(t, "DominatorsOf", l, e, impl.DominatorsOf(l, e, id), nil)
	wantIds(t, "DominatedBy", l, e, impl.DominatedBy(l, e, id), nil)
	wantNumber(t, "RankOf", l, e, impl.RankOf(l, e, id), -1)
	if impl.IsBest(l, e, id) {
		t.Errorf("IsBest(%d) of %v by %s = true", id, l, formatOfNodes(e))
	}
}

func wantWidth(t *testing.T, l []impl.Item, e []impl.Node, want int) {
	t.Helper()
	wantNumber(t, "WidthOf", l, e, impl.WidthOf(l, e), want)
}

func wantAnswers(t *testing.T, l []impl.Item, e []impl.Node, want answers) {
	t.Helper()
	wantBest(t, l, e, want.best...)
	wantWidth(t, l, e, want.width)
	for i, x := range l {
		wantAround(t, l, e, x.Id, want.better[i], want.worse[i])
	}
}

// wantInvalid checks the fixed results of arguments that are not valid.
func wantInvalid(t *testing.T, l []impl.Item, e []impl.Node) {
	t.Helper()
	wantIds(t, "BestItems", l, e, impl.BestItems(l, e), nil)
	wantWidth(t, l, e, 0)
	ids := []int{-1, 0, 1, 4, 99, 100}
	for _, x := range l[:min(len(l), 20)] {
		ids = append(ids, x.Id)
	}
	for _, id := range ids {
		wantNothing(t, l, e, id)
	}
}

// fiveItems returns items of which the first three are best if the fields 0 and 1 are low.
func fiveItems() []impl.Item {
	return []impl.Item{item(1, 2, 5, 0), item(2, 3, 3, 0), item(3, 5, 1, 0), item(4, 4, 4, 0), item(5, 3, 5, 0)}
}

// tower returns so many items of which each is better than the next one by towerOrder.
func tower(count int) []impl.Item {
	var l []impl.Item
	for i := range count {
		l = append(l, item(5*i+4, i/10, i%10, 7-i%3))
	}
	return l
}

func towerOrder() []impl.Node {
	return nodes(lowWish(0), lowWish(1), impl.OpPrior)
}

// rivals returns so many items, at most 10, none of which is better than another one by rivalOrder.
func rivals(count int) []impl.Item {
	var l []impl.Item
	for i := range count {
		l = append(l, item(9*i+7, i, 9-i, 4))
	}
	return l
}

func rivalOrder() []impl.Node {
	return nodes(lowWish(0), lowWish(1), impl.OpPareto)
}

// twins returns so many items with the same values.
func twins(count int, values ...int) []impl.Item {
	var l []impl.Item
	for i := range count {
		l = append(l, item(5*i+2, values...))
	}
	return l
}

func TestBestItems(t *testing.T) {
	for s, want := range map[string][]int{
		"low f0":                        {1},
		"high f0":                       {3},
		"low f1":                        {3},
		"high f1":                       {1, 5},
		"low f2":                        {1, 2, 3, 4, 5},
		"near f0 4":                     {4},
		"near f1 4":                     {4},
		"near f0 3":                     {2, 5},
		"among f0 3,5":                  {2, 3, 5},
		"among f0 0,1":                  {1, 2, 3, 4, 5},
		"order f0 none":                 {1, 2, 3, 4, 5},
		"order f0 3>2,3>4":              {2, 3, 5},
		"order f0 9>2":                  {1, 2, 3, 4, 5},
		"order f0 4>7,7>3":              {1, 3, 4},
		"low f0; low f1; and":           {1, 2, 3},
		"low f0; low f1; then":          {1},
		"low f1; low f0; then":          {3},
		"low f0; low f1; both":          {1, 2, 3, 5},
		"low f0; not":                   {3},
		"low f0; low f1; and; not":      {3, 4, 5},
		"high f1; low f0; then":         {1},
		"high f1; high f0; then":        {5},
		"low f2; high f1; and":          {1, 5},
		"near f0 3; low f1; then":       {2},
		"low f0; high f0; and":          {1, 2, 3, 4, 5},
		"low f0; high f0; both":         {1, 2, 3, 4, 5},
		"low f0; high f0; then":         {1},
		"low f0; low f0; not; and; not": {1, 2, 3, 4, 5},
	} {
		wantBest(t, fiveItems(), reading(t, s), want...)
	}
}

func TestBestItemsOfFewItems(t *testing.T) {
	for _, e := range someExpressions(1) {
		wantBest(t, nil, e)
		wantBest(t, []impl.Item{}, e)
		wantWidth(t, nil, e, 0)
		wantWidth(t, []impl.Item{}, e, 0)
		wantNothing(t, nil, e, 0)
		one := []impl.Item{item(7, 3, 0, 9)}
		wantBest(t, one, e, 7)
		wantWidth(t, one, e, 1)
		wantAround(t, one, e, 7, nil, nil)
		wantNothing(t, one, e, 0)
	}
}

func TestDominators(t *testing.T) {
	for _, c := range []struct {
		s             string
		id            int
		better, worse []int
	}{
		{"low f0; low f1; and", 1, nil, []int{5}},
		{"low f0; low f1; and", 2, nil, []int{4, 5}},
		{"low f0; low f1; and", 3, nil, nil},
		{"low f0; low f1; and", 4, []int{2}, nil},
		{"low f0; low f1; and", 5, []int{1, 2}, nil},
		{"low f0; low f1; and; not", 2, []int{4, 5}, nil},
		{"low f0; low f1; and; not", 5, nil, []int{1, 2}},
		{"low f0; low f1; then", 1, nil, []int{2, 3, 4, 5}},
		{"low f0; low f1; then", 2, []int{1}, []int{3, 4, 5}},
		{"low f0; low f1; then", 3, []int{1, 2, 4, 5}, nil},
		{"low f0; low f1; then", 4, []int{1, 2, 5}, []int{3}},
		{"low f0; low f1; then", 5, []int{1, 2}, []int{3, 4}},
		{"low f0; low f1; both", 4, []int{2}, nil},
		{"low f0; low f1; both", 5, nil, nil},
		{"low f0", 2, []int{1}, []int{3, 4}},
		{"high f0", 2, []int{3, 4}, []int{1}},
		{"near f0 4", 3, []int{4}, []int{1}},
		{"order f0 3>2,3>4", 5, nil, []int{1, 4}},
		{"order f0 3>2,3>4", 4, []int{2, 5}, nil},
		{"order f0 3>2,3>4", 3, nil, nil},
		{"order f0 4>7,7>3", 4, nil, []int{2, 5}},
		{"low f2", 3, nil, nil},
	} {
		wantAround(t, fiveItems(), reading(t, c.s), c.id, c.better, c.worse)
	}
}

func TestWidthOf(t *testing.T) {
	for s, want := range map[string]int{
		"low f0; low f1; and":       5,
		"low f0; low f1; then":      1,
		"low f0; low f1; both":      5,
		"low f0":                    2,
		"low f1":                    2,
		"low f2":                    5,
		"near f0 4":                 3,
		"among f0 3,5":              3,
		"among f0 2":                4,
		"order f0 none":             5,
		"order f0 3>2,3>4":          5,
		"order f0 3>2,3>4,5>4":      4,
		"order f0 2>3,3>4,4>5":      2,
		"order f0 2>3,3>4":          5,
		"order f0 2>3,5>3":          5,
		"order f0 2>3,5>3,2>4":      4,
		"low f0; not; low f1; then": 1,
	} {
		wantWidth(t, fiveItems(), reading(t, s), want)
	}
}

func TestWidthLooksAtEachItem(t *testing.T) {
	// Four of the five are in a row, and the fifth one, which may come first or last, is level with all of them.
	e := nodes(orderWish(0, pairs(0, 1, 1, 2, 2, 3)))
	for at := range 5 {
		l, next := []impl.Item(nil), 0
		for i := range 5 {
			x := item(10*i, next, 0, 0)
			if i == at {
				x.Values[0] = 9
			} else {
				next++
			}
			l = append(l, x)
		}
		wantWidth(t, l, e, 5)
		wantWidth(t, slices.Delete(l, at, at+1), e, 1)
	}
}

func TestWidthIsThatOfOneItem(t *testing.T) {
	// In two rows of three items, each one is level with itself and the other row, although no more than two are level with each other.
	l := []impl.Item{item(1, 0, 0, 0), item(2, 1, 0, 0), item(3, 2, 0, 0), item(4, 5, 0, 0), item(5, 6, 0, 0), item(6, 7, 0, 0)}
	wantWidth(t, l, nodes(orderWish(0, pairs(0, 1, 1, 2, 5, 6, 6, 7))), 4)
}

// Edge case: items that are equal.

func TestItemsWithTheSameValues(t *testing.T) {
	for _, e := range someExpressions(1) {
		for count := range impl.MaxItems + 1 {
			l := twins(count, 3, 0, 9)
			wantIds(t, "BestItems", l, e, impl.BestItems(l, e), impl.IdsOf(l))
			wantWidth(t, l, e, count)
			for _, x := range l {
				wantAround(t, l, e, x.Id, nil, nil)
				if !impl.IsBest(l, e, x.Id) {
					t.Errorf("%d of %d items with the same values is not best by %s", x.Id, count, formatOfNodes(e))
				}
			}
		}
	}
}

func TestItemsWithTheSameValuesAmongOthers(t *testing.T) {
	l := []impl.Item{item(0, 4, 4, 0), item(10, 2, 5, 1), item(11, 3, 3, 1), item(40, 2, 5, 1), item(41, 4, 4, 0), item(98, 3, 3, 1), item(99, 4, 4, 0)}
	low := nodes(lowWish(0), lowWish(1), impl.OpPareto)
	wantBest(t, l, low, 10, 11, 40, 98)
	wantWidth(t, l, low, 7)
	for _, id := range []int{0, 41, 99} {
		wantAround(t, l, low, id, []int{11, 98}, nil)
	}
	for _, id := range []int{11, 98} {
		wantAround(t, l, low, id, nil, []int{0, 41, 99})
	}
	for _, id := range []int{10, 40} {
		wantAround(t, l, low, id, nil, nil)
	}
	then := nodes(lowWish(0), lowWish(1), impl.OpPrior)
	wantBest(t, l, then, 10, 40)
	wantWidth(t, l, then, 3)
	wantAround(t, l, then, 98, []int{10, 40}, []int{0, 41, 99})
	wantAround(t, l, then, 41, []int{10, 11, 40, 98}, nil)
}

func TestItemsThatAreEqualByTheExpression(t *testing.T) {
	for _, c := range []struct {
		s    string
		l    []impl.Item
		best []int
	}{
		{"near f0 4", []impl.Item{item(1, 3, 0, 0), item(2, 5, 9, 9), item(3, 6, 0, 0)}, []int{1, 2}},
		{"near f0 4", []impl.Item{item(1, 6, 0, 0), item(2, 2, 9, 9), item(3, 1, 0, 0)}, []int{1, 2}},
		{"among f1 1,3", []impl.Item{item(1, 0, 1, 0), item(2, 9, 2, 9), item(3, 9, 3, 9), item(4, 0, 9, 0)}, []int{1, 3}},
		{"among f1 1,3", []impl.Item{item(1, 0, 0, 0), item(2, 9, 2, 9)}, []int{1, 2}},
		{"low f2", []impl.Item{item(1, 0, 9, 2), item(2, 9, 0, 2), item(3, 0, 0, 3)}, []int{1, 2}},
		{"order f2 1>0", []impl.Item{item(1, 0, 9, 0), item(2, 9, 0, 0), item(3, 0, 0, 7)}, []int{1, 2, 3}},
		{"near f0 4; among f1 1,3; and", []impl.Item{item(1, 3, 1, 0), item(2, 5, 3, 9), item(3, 5, 2, 0)}, []int{1, 2}},
		{"near f0 4; among f1 1,3; both", []impl.Item{item(1, 3, 1, 0), item(2, 5, 3, 9), item(3, 5, 2, 0), item(4, 6, 9, 0)}, []int{1, 2, 3}},
		{"near f0 4; low f2; then", []impl.Item{item(1, 3, 1, 5), item(2, 5, 3, 5), item(3, 5, 2, 6)}, []int{1, 2}},
		{"near f0 4; not", []impl.Item{item(1, 0, 1, 5), item(2, 8, 3, 5), item(3, 7, 2, 6)}, []int{1, 2}},
	} {
		e := reading(t, c.s)
		wantBest(t, c.l, e, c.best...)
		for _, id := range c.best[:2] {
			wantIds(t, "DominatorsOf", c.l, e, impl.DominatorsOf(c.l, e, id), nil)
		}
		wantAnswers(t, c.l, e, answersOf(c.l, e))
	}
}

func TestEqualItemsHaveEqualAnswers(t *testing.T) {
	source := rand.New(rand.NewSource(71))
	for _, e := range someExpressions(1) {
		var l []impl.Item
		for i := range 5 {
			values := []int{source.Intn(10), source.Intn(10), source.Intn(10)}
			l = append(l, item(20*i, values...), item(20*i+1, slices.Clone(values)...), item(20*i+9, slices.Clone(values)...))
		}
		for i := 0; i < len(l); i += 3 {
			first, second, third := l[i].Id, l[i+1].Id, l[i+2].Id
			for _, id := range []int{second, third} {
				wantAround(t, l, e, id, impl.DominatorsOf(l, e, first), impl.DominatedBy(l, e, first))
				if impl.IsBest(l, e, id) != impl.IsBest(l, e, first) {
					t.Errorf("only one of %d and %d is best of %v by %s", first, id, l, formatOfNodes(e))
				}
			}
			for _, list := range [][]int{impl.BestItems(l, e), impl.DominatorsOf(l, e, l[(i+3)%15].Id), impl.DominatedBy(l, e, l[(i+3)%15].Id)} {
				if slices.Contains(list, first) != slices.Contains(list, second) || slices.Contains(list, first) != slices.Contains(list, third) {
					t.Errorf("%v has not all of the equal items %d, %d and %d", list, first, second, third)
				}
			}
		}
	}
}

// randomItems returns valid items with ascending Ids. With few values, many of them are equal.
func randomItems(source *rand.Rand, count, values int) []impl.Item {
	ids := source.Perm(100)[:count]
	slices.Sort(ids)
	var l []impl.Item
	for _, id := range ids {
		l = append(l, item(id, source.Intn(values), source.Intn(values), source.Intn(values)))
	}
	return l
}

func TestAnswersAgreeWithRelations(t *testing.T) {
	source := rand.New(rand.NewSource(70))
	for _, e := range someExpressions(2) {
		l := randomItems(source, source.Intn(impl.MaxItems+1), 2+source.Intn(9))
		wantAnswers(t, l, e, answersOf(l, e))
	}
}

func TestAnswersAgreeWithRelationsForAllWishes(t *testing.T) {
	source := rand.New(rand.NewSource(72))
	for field := range impl.FieldCount {
		for _, w := range fewWishes(field) {
			for _, e := range [][]impl.Node{nodes(w), nodes(w, impl.OpDual)} {
				l := randomItems(source, impl.MaxItems, 10)
				wantAnswers(t, l, e, answersOf(l, e))
			}
		}
	}
}

func TestAnswersAgreeWithEachOther(t *testing.T) {
	source := rand.New(rand.NewSource(73))
	for _, e := range someExpressions(2) {
		l := randomItems(source, 1+source.Intn(impl.MaxItems), 10)
		best := impl.BestItems(l, e)
		if len(best) == 0 || !slices.IsSorted(best) {
			t.Errorf("the best of %v by %s are %v", l, formatOfNodes(e), best)
		}
		for _, x := range l {
			better, isBest := impl.DominatorsOf(l, e, x.Id), slices.Contains(best, x.Id)
			if isBest != (len(better) == 0) || isBest != impl.IsBest(l, e, x.Id) || isBest != (impl.RankOf(l, e, x.Id) == 0) {
				t.Errorf("%v are better than %d, the best of %v by %s are %v", better, x.Id, l, formatOfNodes(e), best)
			}
			// Every way up ends, because the order is strict, and it ends at one of the best.
			if !isBest && !slices.ContainsFunc(better, func(id int) bool { return slices.Contains(best, id) }) {
				t.Errorf("none of the best %v of %v by %s is better than %d", best, l, formatOfNodes(e), x.Id)
			}
			for _, y := range l {
				code := impl.CompareBy(e, x, y)
				if slices.Contains(impl.DominatedBy(l, e, x.Id), y.Id) != (code == impl.Better) || slices.Contains(better, y.Id) != (code == impl.Worse) {
					t.Errorf("%v and %v compare as %d by %s", x, y, code, formatOfNodes(e))
				}
			}
		}
	}
}

func TestDualExchangesDominators(t *testing.T) {
	source := rand.New(rand.NewSource(74))
	for _, e := range someExpressions(1) {
		if len(e) == impl.MaxNodes {
			continue
		}
		l := randomItems(source, impl.MaxItems, 6)
		dual := nodes(e, impl.OpDual)
		for _, x := range l {
			wantAround(t, l, dual, x.Id, impl.DominatedBy(l, e, x.Id), impl.DominatorsOf(l, e, x.Id))
		}
		wantWidth(t, l, dual, impl.WidthOf(l, e))
	}
}

// Values at and beyond each limit.

func TestNumberOfItems(t *testing.T) {
	for count := range impl.MaxItems + 1 {
		l, e := tower(count), towerOrder()
		for at, x := range l {
			wantAround(t, l, e, x.Id, impl.IdsOf(l[:at]), impl.IdsOf(l[at+1:]))
		}
		wantBest(t, l, e, impl.IdsOf(l[:min(count, 1)])...)
		wantWidth(t, l, e, min(count, 1))
		last := nodes(e, impl.OpDual)
		wantBest(t, l, last, impl.IdsOf(l[max(count-1, 0):])...)
	}
	for count := range 11 {
		l, e := rivals(count), rivalOrder()
		wantBest(t, l, e, impl.IdsOf(l)...)
		wantWidth(t, l, e, count)
		for _, x := range l {
			wantAround(t, l, e, x.Id, nil, nil)
		}
	}
	wantNumber(t, "RankOf", tower(16), towerOrder(), impl.RankOf(tower(16), towerOrder(), 79), 15)
	for _, count := range []int{17, 18, 32, 33, 256, 272, 5000} {
		wantInvalid(t, tower(count), towerOrder())
		wantInvalid(t, twins(count, 1, 2, 3), towerOrder())
		many := slices.Repeat(twins(1, 1, 2, 3), count)
		for i := range many {
			many[i].Id = i
		}
		wantInvalid(t, many, towerOrder())
	}
	// What stands behind the end is no item.
	row := tower(17)
	wantBest(t, row[:16], towerOrder(), 4)
	wantBest(t, row[1:], towerOrder(), 9)
	wantInvalid(t, row, towerOrder())
}

func TestIdsAtAndBeyondTheLimits(t *testing.T) {
	e := nodes(lowWish(0))
	l := []impl.Item{item(0, 3, 0, 0), item(1, 2, 0, 0), item(98, 4, 0, 0), item(99, 2, 0, 0)}
	wantBest(t, l, e, 1, 99)
	wantWidth(t, l, e, 2)
	wantAround(t, l, e, 0, []int{1, 99}, []int{98})
	wantAround(t, l, e, 99, nil, []int{0, 98})
	wantAround(t, l, e, 98, []int{0, 1, 99}, nil)
	for _, id := range []int{-1, -2, math.MinInt} {
		l := []impl.Item{item(id, 1, 0, 0), item(5, 2, 0, 0)}
		wantInvalid(t, l, e)
	}
	for _, id := range []int{100, 101, 1 << 8, 1 << 32, math.MaxInt} {
		l := []impl.Item{item(5, 2, 0, 0), item(id, 1, 0, 0)}
		wantInvalid(t, l, e)
	}
}

func TestValuesAtAndBeyondTheLimits(t *testing.T) {
	for field := range impl.FieldCount {
		x, y := item(1, 5, 5, 5), item(2, 5, 5, 5)
		x.Values[field], y.Values[field] = 0, 9
		l := []impl.Item{x, y}
		wantBest(t, l, nodes(lowWish(field)), 1)
		wantBest(t, l, nodes(highWish(field)), 2)
		for _, v := range farValues {
			y.Values[field] = v
			wantInvalid(t, l, nodes(lowWish(field)))
			wantInvalid(t, l, nodes(highWish((field+1)%3)))
		}
	}
}

func TestExpressionsAtAndBeyondTheLimit(t *testing.T) {
	l := fiveItems()
	wantBest(t, l, nodes(lowWish(0), slices.Repeat(nodes(impl.OpDual), 8)), 1)
	wantBest(t, l, nodes(lowWish(0), slices.Repeat(nodes(impl.OpDual), 7)), 3)
	wantInvalid(t, l, nodes(lowWish(0), slices.Repeat(nodes(impl.OpDual), 9)))
	wantInvalid(t, l, nodes(lowWish(0), slices.Repeat(nodes(impl.OpDual), 10)))
	four := nodes(lowWish(0), slices.Repeat(nodes(lowWish(1), impl.OpPrior), 4))
	wantBest(t, l, four, 1)
	wantAround(t, l, four, 3, []int{1, 2, 4, 5}, nil)
	wantInvalid(t, l, nodes(four, impl.OpDual))
	wantInvalid(t, l, nodes(four, lowWish(2), impl.OpPareto))
}

func TestIdsThatNoItemHas(t *testing.T) {
	for _, c := range []struct {
		l []impl.Item
		e []impl.Node
	}{{fiveItems(), rivalOrder()}, {tower(16), towerOrder()}, {twins(16, 0, 0, 0), towerOrder()}, {[]impl.Item{item(0, 0, 0, 0), item(99, 1, 0, 0)}, towerOrder()}, {nil, towerOrder()}} {
		for _, id := range askedIds() {
			if !slices.ContainsFunc(c.l, func(x impl.Item) bool { return x.Id == id }) {
				wantNothing(t, c.l, c.e, id)
			}
		}
	}
}

// Invalid arguments.

func TestAnswersForInvalidItems(t *testing.T) {
	e := rivalOrder()
	for _, x := range invalidItems() {
		wantInvalid(t, []impl.Item{x}, e)
		for at := range 6 {
			l := slices.Insert(validItems(5), at, x)
			wantInvalid(t, l, e)
		}
	}
	for at := range impl.MaxItems {
		for _, values := range [][]int{nil, {}, {1, 2}, {1, 2, 3, 4}, {1, 2, 10}, {-1, 2, 3}} {
			l := tower(impl.MaxItems)
			l[at].Values = values
			wantInvalid(t, l, towerOrder())
		}
	}
}

func TestAnswersForItemsInDisorder(t *testing.T) {
	for at := range impl.MaxItems - 1 {
		l := tower(impl.MaxItems)
		l[at], l[at+1] = l[at+1], l[at]
		wantInvalid(t, l, towerOrder())
		l = tower(impl.MaxItems)
		l[at+1].Id = l[at].Id
		wantInvalid(t, l, towerOrder())
	}
	l := fiveItems()
	slices.Reverse(l)
	wantInvalid(t, l, rivalOrder())
	// The same item twice is not valid, even if all its fields are the same.
	wantInvalid(t, []impl.Item{item(3, 1, 2, 3), item(3, 1, 2, 3)}, rivalOrder())
}

func TestAnswersForInvalidExpressions(t *testing.T) {
	for _, e := range invalidExpressions() {
		wantInvalid(t, fiveItems(), e)
		wantInvalid(t, []impl.Item{item(1, 2, 3, 4)}, e)
		wantInvalid(t, nil, e)
		wantInvalid(t, []impl.Item{item(-1, 2, 3, 4)}, e)
	}
}

func TestAnswersTakeEmptyListsForNil(t *testing.T) {
	e := []impl.Node{
		{Wish: impl.Wish{List: []int{}, Pairs: []impl.Pair{}}},
		{Wish: impl.Wish{Field: 1, List: []int{7}[:0]}},
		{Op: impl.OpPareto, Wish: impl.Wish{List: []int{}, Pairs: pairs(0, 1)[:0]}},
	}
	wantAnswers(t, fiveItems(), e, answersOf(fiveItems(), rivalOrder()))
}

// Memory and state.

func TestAnswersShareNoMemory(t *testing.T) {
	l, e := fiveItems(), nodes(amongWish(0, 2, 3), orderWish(1, pairs(3, 5)), impl.OpPareto)
	wantItems, wantNodes, want := copyOfItems(l), copyOfNodes(e), answersOf(l, e)
	for range 2 {
		lists := [][]int{impl.BestItems(l, e)}
		for _, x := range l {
			lists = append(lists, impl.DominatorsOf(l, e, x.Id), impl.DominatedBy(l, e, x.Id))
		}
		for _, list := range lists {
			list = list[:cap(list)]
			for i := range list {
				list[i] = 77
			}
		}
		if !reflect.DeepEqual(l, wantItems) || !reflect.DeepEqual(e, wantNodes) {
			t.Fatalf("with the results, the arguments became %v and %v", l, e)
		}
		wantAnswers(t, l, e, want)
	}
}

func TestAnswersDoNotModifyArguments(t *testing.T) {
	items := append(tower(18), item(-4, 1, 2, 3), item(3, 1, 2), item(3, 1, 2, 10))
	row := nodes(amongWish(0, 1, 3), amongWish(0, 1, 3), impl.OpPareto, impl.OpDual, orderWish(1, pairs(2, 1, 1, 0)), impl.OpMeet, nearWish(0, 12), -7)
	wantItems, wantRow := copyOfItems(items), copyOfNodes(row)
	for from := range len(items) + 1 {
		for to := from; to <= len(items); to++ {
			for end := range len(row) + 1 {
				l, e := items[from:to], row[:end]
				impl.BestItems(l, e)
				impl.WidthOf(l, e)
				for _, id := range []int{-4, 3, 4, 39} {
					impl.IsBest(l, e, id)
					impl.DominatorsOf(l, e, id)
					impl.DominatedBy(l, e, id)
					impl.RankOf(l, e, id)
				}
			}
		}
	}
	if !reflect.DeepEqual(items, wantItems) || !reflect.DeepEqual(row, wantRow) {
		t.Errorf("the arguments became %v and %v", items, row)
	}
}

func TestAnswersKeepNoState(t *testing.T) {
	l, e := []impl.Item{item(1, 1, 0, 0), item(2, 2, 0, 0), item(3, 1, 0, 0)}, nodes(lowWish(0))
	for i := range 6 {
		// The same memory holds other items and another expression in every second and third round.
		l[1].Values[0] = 2 * (i % 2)
		e[0].Wish.Kind = []int{impl.WishLow, impl.WishHigh, impl.WishLow}[i%3]
		if (l[1].Values[0] == 2) == (e[0].Wish.Kind == impl.WishLow) {
			wantBest(t, l, e, 1, 3)
			wantAround(t, l, e, 2, []int{1, 3}, nil)
		} else {
			wantBest(t, l, e, 2)
			wantAround(t, l, e, 2, nil, []int{1, 3})
		}
		wantWidth(t, l, e, 2)
	}
}
