package tests

// Promise 7: a stated regret is the greatest over all admitted utilities, and chosen sets are smallest.

import (
	"math"
	"math/bits"
	"math/rand"
	"reflect"
	"slices"
	"testing"

	"loop.example/g01987/impl"
)

// loss is what RegretOf returns.
type loss struct {
	num     int
	den     int
	weights []int
}

// share tells any two losses apart: their denominators are small, so that floats are near enough to them.
func (r loss) share() float64 {
	return float64(r.num) / float64(r.den)
}

// chosen is a set of items and what is lost with it.
type chosen struct {
	ids  []int
	loss loss
}

// allWeights writes WeightLists without the program: each list has the digits of a number to the base 4.
func allWeights() [][]int {
	var all [][]int
	for n := 1; n < 64; n++ {
		all = append(all, []int{n / 16, n / 4 % 4, n % 4})
	}
	return all
}

// invalidWeights returns lists that break one rule each, just beyond the limits and far from them.
func invalidWeights() [][]int {
	all := [][]int{nil, {}, {1}, {1, 2}, {1, 2, 3, 0}, {0, 0, 0, 1}, {1, 1, 1, 1, 1, 1}}
	for field := range impl.FieldCount {
		for _, weight := range []int{-1, -2, -3, 4, 5, 10, 100, math.MaxInt, math.MinInt, 1 << 8, 1 << 32, 1<<32 + 1} {
			w := []int{1, 2, 3}
			w[field] = weight
			all = append(all, w)
		}
	}
	return all
}

// bestWith returns the greatest utility among the items with these Ids, without the program.
func bestWith(l []impl.Item, ids []int, w []int) int {
	best := 0
	for _, x := range l {
		if slices.Contains(ids, x.Id) {
			best = max(best, x.Values[0]*w[0]+x.Values[1]*w[1]+x.Values[2]*w[2])
		}
	}
	return best
}

// lossOf finds RegretOf for valid arguments without the program.
func lossOf(l []impl.Item, ids []int) loss {
	greatest := loss{den: 1}
	for _, w := range allWeights() {
		best := bestWith(l, impl.IdsOf(l), w)
		here := loss{num: best - bestWith(l, ids, w), den: best, weights: w}
		// Where there is no utility at all, the share is no number, which is not greater either.
		if here.share() > greatest.share() {
			greatest = here
		}
	}
	return greatest
}

// setsOfItems returns all sets of items, in the order in which SmallestSet prefers them.
func setsOfItems(l []impl.Item) []chosen {
	var all []chosen
	for size := range len(l) + 1 {
		// The first item has the highest bit: of two sets of the same size, the list with the smaller Id has the greater number.
		for set := 1<<len(l) - 1; set >= 0; set-- {
			if bits.OnesCount(uint(set)) != size {
				continue
			}
			var ids []int
			for i, x := range l {
				if set>>(len(l)-1-i)&1 == 1 {
					ids = append(ids, x.Id)
				}
			}
			all = append(all, chosen{ids: ids, loss: lossOf(l, ids)})
		}
	}
	return all
}

// greedyOf finds GreedySet of all items without the program; smaller sets are the start of it.
func greedyOf(l []impl.Item) []int {
	var ids []int
	for range l {
		next, least := 0, 2.0
		for _, x := range slices.Backward(l) {
			if share := lossOf(l, append(slices.Clone(ids), x.Id)).share(); !slices.Contains(ids, x.Id) && share <= least {
				next, least = x.Id, share
			}
		}
		ids = append(ids, next)
	}
	return ids
}

func wantAllWeights(t *testing.T) {
	t.Helper()
	if got := impl.WeightLists(); !slices.EqualFunc(got, allWeights(), slices.Equal) {
		t.Errorf("WeightLists() = %v", got)
	}
}

func wantUtility(t *testing.T, x impl.Item, w []int, want int) {
	t.Helper()
	if got := impl.UtilityOf(x, w); got != want {
		t.Errorf("UtilityOf(%v, %v) = %d, want %d", x, w, got, want)
	}
}

func wantBestUtility(t *testing.T, l []impl.Item, ids []int, w []int, want int) {
	t.Helper()
	if got := impl.BestUtility(l, ids, w); got != want {
		t.Errorf("BestUtility of %v in %v for the weights %v = %d, want %d", ids, l, w, got, want)
	}
}

func wantRegret(t *testing.T, l []impl.Item, ids []int, num, den int, weights ...int) {
	t.Helper()
	gotNum, gotDen, got := impl.RegretOf(l, ids)
	if gotNum != num || gotDen != den || !slices.Equal(got, weights) {
		t.Errorf("RegretOf %v in %v = %d, %d, %v, want %d, %d, %v", ids, l, gotNum, gotDen, got, num, den, weights)
	}
}

func wantSmallest(t *testing.T, l []impl.Item, num, den int, want []int, ok bool) {
	t.Helper()
	got, gotOk := impl.SmallestSet(l, num, den)
	if !slices.Equal(got, want) || gotOk != ok {
		t.Errorf("SmallestSet of %v with a regret of %d/%d = %v, %t, want %v, %t", l, num, den, got, gotOk, want, ok)
	}
}

func wantGreedy(t *testing.T, l []impl.Item, size int, want ...int) {
	t.Helper()
	got := impl.GreedySet(l, size)
	if !slices.Equal(got, want) {
		t.Errorf("GreedySet of %d of %v = %v, want %v", size, l, got, want)
	}
}

// wantRegrets checks RegretOf for the sets.
func wantRegrets(t *testing.T, l []impl.Item, sets []chosen) {
	t.Helper()
	for _, set := range sets {
		wantRegret(t, l, set.ids, set.loss.num, set.loss.den, set.loss.weights...)
	}
}

// wantSmallestOf checks SmallestSet against the sets of setsOfItems.
func wantSmallestOf(t *testing.T, l []impl.Item, sets []chosen, num, den int) {
	t.Helper()
	at := slices.IndexFunc(sets, func(set chosen) bool { return set.loss.num*den <= num*set.loss.den })
	wantSmallest(t, l, num, den, sets[at].ids, true)
}

// wantGreedySizes checks GreedySet for some sizes, from none to more than there are.
func wantGreedySizes(t *testing.T, l []impl.Item) {
	t.Helper()
	want := greedyOf(l)
	for _, size := range []int{0, 1, 2, 3, 5, len(l) - 1, len(l), len(l) + 1, impl.MaxItems, impl.MaxItems + 1} {
		wantGreedy(t, l, size, want[:min(max(size, 0), len(l))]...)
	}
}

// wantNoRegret checks the fixed results of items that are not valid.
func wantNoRegret(t *testing.T, l []impl.Item) {
	t.Helper()
	few := impl.IdsOf(l[:min(len(l), 2)])
	for _, ids := range [][]int{nil, {}, {1}, few, impl.IdsOf(l)} {
		wantRegret(t, l, ids, 0, 1)
	}
	for _, num := range []int{0, 1, 2} {
		wantSmallest(t, l, num, 2, nil, false)
	}
	for _, size := range []int{-1, 0, 1, 2, 8, 16, 17} {
		wantGreedy(t, l, size)
	}
}

// threeItems returns items of which the last one is good in both fields, and the others in one.
func threeItems() []impl.Item {
	return []impl.Item{item(1, 4, 0, 0), item(2, 0, 4, 0), item(3, 3, 3, 0)}
}

// specialists returns so many items, at most 8, each with a field in which no other one is better, or between two such items.
func specialists(count int) []impl.Item {
	l := []impl.Item{item(0, 9, 0, 0), item(13, 0, 9, 0), item(26, 0, 0, 9), item(39, 8, 5, 0), item(52, 5, 8, 0), item(65, 0, 8, 5), item(78, 0, 5, 8), item(99, 6, 6, 6)}
	return l[:count]
}

func TestWeightLists(t *testing.T) {
	wantAllWeights(t)
	got := impl.WeightLists()
	if len(got) != 63 || !slices.IsSortedFunc(got, slices.Compare) {
		t.Errorf("%d lists, not all of them in ascending order: %v", len(got), got)
	}
	for _, w := range got {
		if len(w) != impl.FieldCount || slices.Min(w) < 0 || slices.Max(w) > impl.MaxWeight || slices.Max(w) == 0 {
			t.Errorf("the weights %v are not admitted", w)
		}
	}
}

func TestUtilityOf(t *testing.T) {
	for _, c := range []struct {
		x    impl.Item
		w    []int
		want int
	}{
		{item(3, 3, 3, 0), []int{1, 2, 3}, 9},
		{item(1, 2, 5, 7), []int{1, 0, 0}, 2},
		{item(1, 2, 5, 7), []int{0, 1, 0}, 5},
		{item(1, 2, 5, 7), []int{0, 0, 1}, 7},
		{item(1, 2, 5, 7), []int{1, 2, 3}, 33},
		{item(1, 2, 5, 7), []int{3, 2, 1}, 23},
		{item(1, 2, 5, 7), []int{0, 0, 0}, 0},
		{item(0, 0, 0, 0), []int{3, 3, 3}, 0},
		{item(99, 9, 9, 9), []int{3, 3, 3}, 81},
		{item(0, 9, 9, 9), []int{1, 1, 1}, 27},
	} {
		wantUtility(t, c.x, c.w, c.want)
	}
	for n := range 1000 {
		x := item(n%100, n/100, n/10%10, n%10)
		for _, w := range allWeights() {
			wantUtility(t, x, w, bestWith([]impl.Item{x}, []int{x.Id}, w))
		}
	}
}

func TestUtilityOfInvalidArguments(t *testing.T) {
	for _, x := range invalidItems() {
		for _, w := range [][]int{{1, 1, 1}, {3, 3, 3}, {0, 0, 1}, {0, 0, 0}, {1, 2, 4}, {1}, nil} {
			wantUtility(t, x, w, 0)
		}
	}
	for _, w := range invalidWeights() {
		wantUtility(t, item(1, 2, 3, 4), w, 0)
		wantUtility(t, item(1, 9, 9, 9), w, 0)
		wantUtility(t, item(1, 0, 0, 0), w, 0)
	}
}

func TestBestUtility(t *testing.T) {
	for _, c := range []struct {
		ids  []int
		w    []int
		want int
	}{
		{[]int{1, 2}, []int{1, 1, 0}, 4},
		{[]int{1, 2, 3}, []int{1, 1, 0}, 6},
		{[]int{3}, []int{1, 0, 0}, 3},
		{[]int{1, 3}, []int{1, 0, 0}, 4},
		{[]int{3, 1}, []int{1, 0, 0}, 4},
		{[]int{2}, []int{1, 0, 0}, 0},
		{[]int{2}, []int{3, 2, 1}, 8},
		{[]int{1, 2, 3}, []int{0, 0, 3}, 0},
		{[]int{1, 2, 3}, []int{3, 3, 3}, 18},
		{[]int{3, 3, 3, 1, 1}, []int{3, 1, 0}, 12},
		// Ids that no item has.
		{[]int{0, 4, -1, 100, 1 << 32, math.MaxInt, math.MinInt}, []int{1, 1, 1}, 0},
		{[]int{7, 1, 8}, []int{2, 1, 0}, 8},
	} {
		wantBestUtility(t, threeItems(), c.ids, c.w, c.want)
	}
	source := rand.New(rand.NewSource(111))
	for range 200 {
		l, ids := randomItems(source, source.Intn(impl.MaxItems+1), 10), source.Perm(100)[:source.Intn(40)]
		for _, w := range allWeights() {
			wantBestUtility(t, l, ids, w, bestWith(l, ids, w))
		}
	}
}

func TestBestUtilityOfNone(t *testing.T) {
	for _, w := range append(append(allWeights(), []int{0, 0, 0}), invalidWeights()...) {
		for _, none := range [][]int{nil, {}} {
			wantBestUtility(t, threeItems(), none, w, 0)
			wantBestUtility(t, nil, none, w, 0)
			wantBestUtility(t, []impl.Item{}, none, w, 0)
		}
		wantBestUtility(t, nil, []int{0, 1, 2}, w, 0)
		wantBestUtility(t, []impl.Item{item(5, 9, 9, 9)}, []int{4, 6}, w, 0)
	}
}

func TestBestUtilityForInvalidWeights(t *testing.T) {
	for _, w := range append(invalidWeights(), []int{0, 0, 0}) {
		wantBestUtility(t, threeItems(), []int{1, 2, 3}, w, 0)
		wantBestUtility(t, specialists(8), []int{99}, w, 0)
	}
}

func TestBestUtilityAmongItemsThatAreNotValid(t *testing.T) {
	// Only UtilityOf names invalid items, and has 0 for them.
	for _, x := range invalidItems() {
		wantBestUtility(t, []impl.Item{x}, []int{x.Id}, []int{1, 1, 1}, 0)
		wantBestUtility(t, []impl.Item{x, item(50, 1, 0, 0)}, []int{x.Id, 50}, []int{3, 1, 1}, 3)
		wantBestUtility(t, []impl.Item{item(50, 1, 0, 0), x}, []int{x.Id, 50}, []int{3, 1, 1}, 3)
	}
	// Lists that are no valid items, but contain none that is not valid.
	wantBestUtility(t, []impl.Item{item(3, 1, 0, 0), item(2, 2, 0, 0), item(1, 0, 0, 3)}, []int{1, 2}, []int{1, 1, 1}, 3)
	wantBestUtility(t, []impl.Item{item(3, 1, 0, 0), item(3, 2, 0, 0), item(3, 0, 0, 1)}, []int{3}, []int{1, 1, 1}, 2)
	wantBestUtility(t, append(tower(17), item(98, 9, 9, 9)), []int{98}, []int{1, 1, 1}, 27)
}

func TestRegretOf(t *testing.T) {
	l := threeItems()
	wantRegret(t, l, []int{3}, 1, 4, 0, 1, 0)
	wantRegret(t, l, []int{1}, 4, 4, 0, 1, 0)
	wantRegret(t, l, []int{2}, 4, 4, 1, 0, 0)
	wantRegret(t, l, []int{1, 2}, 2, 6, 1, 1, 0)
	wantRegret(t, l, []int{1, 3}, 1, 4, 0, 1, 0)
	wantRegret(t, l, []int{2, 3}, 1, 4, 1, 0, 0)
	wantRegret(t, l, []int{1, 2, 3}, 0, 1)
	// The order in the list does not matter, nor that an Id is there twice.
	wantRegret(t, l, []int{2, 1}, 2, 6, 1, 1, 0)
	wantRegret(t, l, []int{3, 2, 1}, 0, 1)
	wantRegret(t, l, []int{2, 2, 1, 2, 1}, 2, 6, 1, 1, 0)
	wantRegret(t, l, slices.Repeat([]int{3}, 5000), 1, 4, 0, 1, 0)
}

func TestRegretIsTheFirstOfTheGreatest(t *testing.T) {
	// Equal fractions with different denominators, the greater one first, and the smaller one first.
	wantRegret(t, []impl.Item{item(1, 4, 8, 5), item(2, 3, 6, 5)}, []int{2}, 2, 8, 0, 1, 0)
	wantRegret(t, []impl.Item{item(1, 8, 4, 5), item(2, 6, 3, 5)}, []int{2}, 1, 4, 0, 1, 0)
	// A greater difference is not always a greater regret.
	wantRegret(t, []impl.Item{item(1, 9, 2, 0), item(2, 7, 1, 0)}, []int{2}, 1, 2, 0, 1, 0)
	wantRegret(t, []impl.Item{item(1, 2, 9, 0), item(2, 1, 7, 0)}, []int{2}, 1, 2, 1, 0, 0)
	// Fractions that are near to each other: 7/9 is less than 4/5, and 8/9 is more.
	wantRegret(t, []impl.Item{item(1, 5, 9, 0), item(2, 1, 2, 0)}, []int{2}, 4, 5, 1, 0, 0)
	wantRegret(t, []impl.Item{item(1, 5, 9, 0), item(2, 1, 1, 0)}, []int{2}, 8, 9, 0, 1, 0)
	// Only all three weights together have the greatest one.
	wantRegret(t, []impl.Item{item(1, 3, 3, 3), item(2, 9, 0, 0), item(3, 0, 9, 0), item(4, 0, 0, 9), item(5, 6, 6, 6)}, []int{2, 3, 4}, 9, 18, 1, 1, 1)
	// Only three weights that differ, the greatest possible one among them, have it.
	wantRegret(t, []impl.Item{item(1, 6, 5, 4), item(2, 6, 5, 0), item(3, 4, 3, 9)}, []int{2, 3}, 4, 31, 2, 3, 1)
}

func TestRegretIsNotReduced(t *testing.T) {
	wantRegret(t, []impl.Item{item(1, 0, 0, 8), item(2, 0, 0, 4)}, []int{2}, 4, 8, 0, 0, 1)
	wantRegret(t, []impl.Item{item(1, 0, 9, 0), item(2, 0, 3, 0)}, []int{2}, 6, 9, 0, 1, 0)
	wantRegret(t, []impl.Item{item(1, 9, 0, 0), item(2, 0, 0, 0)}, []int{2}, 9, 9, 1, 0, 0)
}

// Edge case: a set without items.

func TestRegretOfASetWithoutItems(t *testing.T) {
	for _, none := range [][]int{nil, {}} {
		wantRegret(t, threeItems(), none, 4, 4, 0, 1, 0)
		wantRegret(t, specialists(8), none, 9, 9, 0, 0, 1)
		wantRegret(t, []impl.Item{item(7, 5, 0, 0)}, none, 5, 5, 1, 0, 0)
		wantRegret(t, []impl.Item{item(7, 5, 0, 1)}, none, 1, 1, 0, 0, 1)
		wantRegret(t, []impl.Item{item(7, 0, 0, 0)}, none, 0, 1)
		wantRegret(t, twins(16, 0, 0, 0), none, 0, 1)
		wantRegret(t, nil, none, 0, 1)
		wantRegret(t, []impl.Item{}, none, 0, 1)
	}
	// A set with an item that is good for nothing is no better.
	l := []impl.Item{item(1, 0, 0, 0), item(2, 0, 3, 7)}
	wantRegret(t, l, nil, 7, 7, 0, 0, 1)
	wantRegret(t, l, []int{1}, 7, 7, 0, 0, 1)
	wantRegret(t, l, []int{2}, 0, 1)
}

func TestSmallestSetWithoutItems(t *testing.T) {
	// A regret of 1 is that of the set without items; without any utility, it has none.
	for _, den := range []int{1, 2, 99, 100} {
		for count := range impl.MaxChosen + 1 {
			wantSmallest(t, specialists(count), den, den, nil, true)
			wantSmallest(t, twins(count, 0, 0, 0), 0, den, nil, true)
		}
		wantSmallest(t, nil, 0, den, nil, true)
		wantSmallest(t, []impl.Item{}, 0, den, nil, true)
		wantSmallest(t, []impl.Item{item(7, 0, 0, 1)}, 0, den, []int{7}, true)
	}
	wantSmallest(t, specialists(8), 99, 100, []int{99}, true)
}

func TestGreedySetWithoutItems(t *testing.T) {
	for _, size := range []int{0, -1, -2, -100, math.MinInt, -1 << 32} {
		for count := range impl.MaxChosen + 1 {
			wantGreedy(t, specialists(count), size)
		}
		wantGreedy(t, tower(16), size)
	}
	for _, size := range []int{0, 1, 16, 17, math.MaxInt} {
		wantGreedy(t, nil, size)
		wantGreedy(t, []impl.Item{}, size)
	}
}

func TestNoUtilityIsNoRegret(t *testing.T) {
	for count := 1; count <= impl.MaxItems; count += 3 {
		l := twins(count, 0, 0, 0)
		wantRegret(t, l, impl.IdsOf(l)[:1], 0, 1)
		wantRegret(t, l, impl.IdsOf(l), 0, 1)
		wantGreedy(t, l, count, impl.IdsOf(l)...)
	}
	// For the weights of a field without utility there is none, for others there is.
	wantRegret(t, []impl.Item{item(1, 0, 5, 0), item(2, 0, 4, 0)}, []int{2}, 1, 5, 0, 1, 0)
	wantRegret(t, []impl.Item{item(1, 5, 0, 0), item(2, 4, 0, 0)}, []int{2}, 1, 5, 1, 0, 0)
}

func TestSmallestSet(t *testing.T) {
	l := threeItems()
	wantSmallest(t, l, 1, 4, []int{3}, true)
	wantSmallest(t, l, 25, 100, []int{3}, true)
	wantSmallest(t, l, 24, 100, []int{1, 2, 3}, true)
	wantSmallest(t, l, 0, 1, []int{1, 2, 3}, true)
	wantSmallest(t, l, 0, 100, []int{1, 2, 3}, true)
	wantSmallest(t, l, 1, 3, []int{3}, true)
	wantSmallest(t, l, 99, 100, []int{3}, true)
	wantSmallest(t, l, 1, 1, nil, true)
	// Without the last item, both others are needed for a third.
	wantSmallest(t, l[:2], 1, 3, []int{1, 2}, true)
	wantSmallest(t, l[:2], 99, 100, []int{1, 2}, true)
}

func TestSmallestSetIsTheFirstOfItsSize(t *testing.T) {
	wantSmallest(t, twins(8, 3, 0, 9), 0, 1, []int{2}, true)
	wantSmallest(t, []impl.Item{item(1, 3, 3, 3), item(2, 4, 4, 4), item(3, 4, 4, 4)}, 0, 1, []int{2}, true)
	wantSmallest(t, []impl.Item{item(1, 3, 3, 3), item(2, 4, 4, 4), item(3, 4, 4, 4)}, 1, 4, []int{1}, true)
	// Lists are compared from their start: 1 and 6 serve, and so do 2 and 3, and 2 and 6, but no other two items.
	l := []impl.Item{item(1, 8, 0, 0), item(2, 8, 8, 0), item(3, 0, 0, 8), item(6, 0, 8, 8)}
	wantSmallest(t, l, 1, 2, []int{1, 6}, true)
	wantSmallest(t, l[1:], 1, 2, []int{2, 3}, true)
	wantSmallest(t, slices.Concat(l[:2], l[3:]), 1, 2, []int{1, 6}, true)
	// A smaller set comes before a list that is less.
	wantSmallest(t, []impl.Item{item(1, 9, 0, 0), item(2, 0, 9, 0), item(9, 9, 9, 0)}, 0, 1, []int{9}, true)
	wantSmallest(t, []impl.Item{item(1, 9, 0, 0), item(2, 0, 9, 0), item(3, 0, 0, 0), item(4, 0, 9, 9), item(5, 0, 0, 9)}, 0, 1, []int{1, 4}, true)
}

func TestSmallestSetMayBeSmallerThanAGreedyOne(t *testing.T) {
	// The item that is best alone is in no smallest set.
	l := []impl.Item{item(1, 9, 0, 0), item(2, 0, 9, 0), item(3, 4, 4, 0)}
	wantGreedy(t, l, 3, 3, 1, 2)
	wantSmallest(t, l, 1, 9, []int{1, 2}, true)
	wantRegret(t, l, []int{1, 2}, 0, 1)
	wantRegret(t, l, []int{3, 1}, 5, 9, 0, 1, 0)
}

func TestGreedySet(t *testing.T) {
	l := threeItems()
	wantGreedy(t, l, 1, 3)
	wantGreedy(t, l, 2, 3, 1)
	wantGreedy(t, l, 3, 3, 1, 2)
	wantGreedy(t, l, 9, 3, 1, 2)
	// Equal items follow in their order, and so do all others as soon as there is no regret.
	wantGreedy(t, twins(4, 3, 0, 9), 3, 2, 7, 12)
	wantGreedy(t, []impl.Item{item(4, 1, 1, 1), item(5, 9, 9, 9), item(6, 0, 0, 0), item(7, 8, 8, 8), item(8, 9, 9, 9)}, 5, 5, 4, 6, 7, 8)
	wantGreedy(t, numbered(3, 2, 9, 4), 4, 3, 1, 2, 4)
	// Each of the first three is the one that the set needs most, and none of them is the first one that is left.
	wantGreedy(t, []impl.Item{item(1, 8, 0, 0), item(2, 0, 5, 0), item(3, 9, 0, 0), item(4, 7, 1, 0), item(5, 7, 0, 0)}, 5, 4, 2, 3, 1, 5)
}

// Agreement with what is found without the program.

func TestRegretsOfAllSets(t *testing.T) {
	source := rand.New(rand.NewSource(112))
	for count := range 7 {
		for _, values := range []int{2, 3, 4, 10} {
			l := randomItems(source, count, values)
			wantRegrets(t, l, setsOfItems(l))
		}
	}
	wantRegrets(t, specialists(7), setsOfItems(specialists(7)))
}

func TestRegretsOfSomeSetsOfManyItems(t *testing.T) {
	source := rand.New(rand.NewSource(113))
	for range 500 {
		l := randomItems(source, 1+source.Intn(impl.MaxItems), 2+source.Intn(9))
		ids := impl.IdsOf(l)
		source.Shuffle(len(ids), func(i, j int) { ids[i], ids[j] = ids[j], ids[i] })
		ids = ids[:source.Intn(len(ids)+1)]
		wantRegrets(t, l, []chosen{{ids: ids, loss: lossOf(l, ids)}})
	}
}

func TestRegretIsTheGreatestOverAllWeights(t *testing.T) {
	source := rand.New(rand.NewSource(114))
	for range 300 {
		l := randomItems(source, impl.MaxItems, 10)
		all := impl.IdsOf(l)
		ids := all[:source.Intn(4)]
		num, den, first := impl.RegretOf(l, ids)
		isReached := len(first) == 0
		for _, w := range impl.WeightLists() {
			best, kept := impl.BestUtility(l, all, w), impl.BestUtility(l, ids, w)
			if (best-kept)*den > num*best {
				t.Errorf("the regret of %v in %v is %d/%d, but for %v it is %d/%d", ids, l, num, den, w, best-kept, best)
			}
			if !isReached && best > 0 && (best-kept)*den == num*best {
				isReached = true
				wantRegret(t, l, ids, best-kept, best, w...)
			}
		}
		if !isReached {
			t.Errorf("no weights have the regret %d/%d of %v in %v", num, den, ids, l)
		}
	}
}

func TestSmallestSetsForAllLimits(t *testing.T) {
	source := rand.New(rand.NewSource(115))
	for _, l := range [][]impl.Item{threeItems(), specialists(6), randomItems(source, 4, 10), randomItems(source, 5, 4)} {
		sets := setsOfItems(l)
		for _, den := range []int{1, 2, 3, 4, 7, 9, 36, 81, 99, 100} {
			for num := range den + 1 {
				wantSmallestOf(t, l, sets, num, den)
			}
		}
	}
}

func TestSmallestSetsOfRandomItems(t *testing.T) {
	source := rand.New(rand.NewSource(116))
	for i := range 60 {
		l := randomItems(source, i%(impl.MaxChosen+1), 2+source.Intn(9))
		sets := setsOfItems(l)
		for _, num := range []int{0, 1, 5, 10, 20, 30, 50, 100} {
			wantSmallestOf(t, l, sets, num, 100)
		}
		// At the regrets of some sets, and just below them.
		for range 8 {
			at := sets[source.Intn(len(sets))].loss
			wantSmallestOf(t, l, sets, at.num, at.den)
			wantSmallestOf(t, l, sets, at.num*100/at.den, 100)
		}
	}
}

func TestGreedySetsOfRandomItems(t *testing.T) {
	source := rand.New(rand.NewSource(117))
	for i := range 50 {
		wantGreedySizes(t, randomItems(source, i%(impl.MaxItems+1), 2+source.Intn(9)))
	}
	for count := range impl.MaxChosen + 1 {
		wantGreedySizes(t, specialists(count))
	}
	wantGreedySizes(t, tower(16))
}

func TestChosenSetsAgreeWithRegrets(t *testing.T) {
	source := rand.New(rand.NewSource(118))
	for range 30 {
		l := randomItems(source, 1+source.Intn(impl.MaxChosen), 10)
		greedy := impl.GreedySet(l, impl.MaxItems)
		for size := range len(l) + 1 {
			// A set as small as possible is never greater than the greedy one with the same regret.
			num, den, _ := impl.RegretOf(l, greedy[:size])
			smallest, ok := impl.SmallestSet(l, num, den)
			if !ok || len(smallest) > size || !slices.IsSorted(smallest) {
				t.Errorf("SmallestSet of %v with a regret of %d/%d = %v, %t, but %v serves", l, num, den, smallest, ok, greedy[:size])
			}
			if smallestNum, smallestDen, _ := impl.RegretOf(l, smallest); smallestNum*den > num*smallestDen {
				t.Errorf("the regret of %v in %v is %d/%d, not at most %d/%d", smallest, l, smallestNum, smallestDen, num, den)
			}
		}
		slices.Sort(greedy)
		if !slices.Equal(greedy, impl.IdsOf(l)) {
			t.Errorf("GreedySet of all of %v has in order %v", l, greedy)
		}
	}
}

// Values at and beyond each limit.

func TestNumberOfItemsWithRegret(t *testing.T) {
	for count := 1; count <= impl.MaxItems; count++ {
		l := tower(count)
		wantRegret(t, l, impl.IdsOf(l), 0, 1)
		wantRegret(t, l, nil, 7, 7, 0, 0, 1)
		wantGreedy(t, twins(count, 1, 2, 3), count, impl.IdsOf(twins(count, 1, 2, 3))...)
		wantGreedy(t, twins(count, 1, 2, 3), count-1, impl.IdsOf(twins(count-1, 1, 2, 3))...)
	}
	for _, count := range []int{17, 18, 32, 33, 256, 272, 5000} {
		wantNoRegret(t, tower(count))
		many := slices.Repeat(twins(1, 1, 2, 3), count)
		for i := range many {
			many[i].Id = i
		}
		wantNoRegret(t, many)
	}
	// Ids in the range, so that only the number of items is beyond the limit.
	row := numbered(slices.Repeat([]int{3, 1, 2}, 6)...)
	wantNoRegret(t, row)
	wantNoRegret(t, row[:17])
	wantRegret(t, row[:16], []int{2}, 2, 3, 1, 0, 0)
	wantRegret(t, row[1:17], []int{3}, 1, 3, 1, 0, 0)
}

func TestNumberOfItemsToChooseFrom(t *testing.T) {
	for count := 1; count <= impl.MaxItems; count++ {
		for _, l := range [][]impl.Item{tower(count), twins(count, 1, 2, 3), twins(count, 0, 0, 0)} {
			set, ok := impl.SmallestSet(l, 0, 1)
			if ok != (count <= impl.MaxChosen) || !ok && len(set) > 0 {
				t.Errorf("SmallestSet of %d items = %v, %t", count, set, ok)
			}
		}
	}
	wantSmallest(t, twins(8, 1, 2, 3), 0, 1, []int{2}, true)
	wantSmallest(t, twins(9, 1, 2, 3), 0, 1, nil, false)
	wantSmallest(t, twins(9, 1, 2, 3), 1, 1, nil, false)
	// Each of the eight items is needed for a regret of 0.
	l := []impl.Item{item(1, 9, 0, 0), item(2, 0, 9, 0), item(3, 0, 0, 9), item(4, 8, 5, 0), item(5, 0, 8, 5), item(6, 5, 0, 8), item(7, 7, 7, 0), item(8, 6, 6, 6)}
	sets := setsOfItems(l)
	wantSmallest(t, l, 0, 1, sets[len(sets)-1].ids, true)
	for _, num := range []int{0, 1, 2, 3, 4, 5, 8, 12, 20, 40, 60} {
		wantSmallestOf(t, l, sets, num, 100)
	}
}

func TestLimitsOfRegret(t *testing.T) {
	far := []int{-1, -2, -100, math.MinInt, math.MinInt + 1, -1 << 32}
	for _, l := range [][]impl.Item{threeItems(), specialists(8), nil, {item(7, 0, 0, 0)}} {
		for _, num := range append([]int{0, 1}, far...) {
			for _, den := range append([]int{0, 101, 102, 200, 1000, 1 << 32, 1<<32 + 100, math.MaxInt}, far...) {
				wantSmallest(t, l, num, den, nil, false)
				wantSmallest(t, l, den, den, nil, false)
			}
		}
		for _, den := range []int{1, 2, 50, 99, 100} {
			for _, num := range append([]int{den + 1, den + 2, 101, 1 << 32, 1<<32 + 1, math.MaxInt}, far...) {
				wantSmallest(t, l, num, den, nil, false)
			}
		}
	}
	for den := 1; den <= 100; den++ {
		wantSmallest(t, threeItems(), 0, den, []int{1, 2, 3}, true)
		wantSmallest(t, threeItems(), den, den, nil, true)
		if den > 1 {
			wantSmallest(t, threeItems(), den-1, den, []int{3}, true)
		}
	}
}

func TestSizesOfGreedySets(t *testing.T) {
	l := tower(impl.MaxItems)
	all := greedyOf(l)
	for _, size := range sizesOfBands() {
		wantGreedy(t, l, size, all[:min(max(size, 0), impl.MaxItems)]...)
		wantGreedy(t, nil, size)
	}
}

func TestIdsAndValuesAtTheLimitsOfRegret(t *testing.T) {
	for field := range impl.FieldCount {
		x, y := item(0, 0, 0, 0), item(99, 0, 0, 0)
		x.Values[field], y.Values[field] = 9, 8
		l, w := []impl.Item{x, y}, make([]int, impl.FieldCount)
		w[field] = 1
		wantRegret(t, l, []int{99}, 1, 9, w...)
		wantRegret(t, l, []int{0}, 0, 1)
		wantSmallest(t, l, 1, 9, []int{0}, true)
		wantGreedy(t, l, 2, 0, 99)
		w[field] = 3
		wantBestUtility(t, l, []int{0, 99}, w, 27)
		wantBestUtility(t, l, []int{99}, w, 24)
		for _, v := range farValues {
			y.Values[field] = v
			wantNoRegret(t, l)
		}
	}
	for _, id := range []int{-1, -2, math.MinInt} {
		wantNoRegret(t, []impl.Item{item(id, 1, 0, 0), item(5, 2, 0, 0)})
	}
	for _, id := range []int{100, 101, 1 << 8, 1 << 32, math.MaxInt} {
		wantNoRegret(t, []impl.Item{item(5, 2, 0, 0), item(id, 1, 0, 0)})
	}
}

// Invalid arguments.

func TestRegretOfIdsThatNoItemHas(t *testing.T) {
	for _, l := range [][]impl.Item{threeItems(), tower(16), specialists(8), {item(0, 1, 0, 0), item(99, 0, 0, 0)}, nil} {
		for _, id := range askedIds() {
			if !slices.Contains(impl.IdsOf(l), id) {
				wantRegret(t, l, []int{id}, 0, 1)
				wantRegret(t, l, append(impl.IdsOf(l), id), 0, 1)
				wantRegret(t, l, append([]int{id}, impl.IdsOf(l[:min(1, len(l))])...), 0, 1)
			}
		}
	}
}

func TestRegretOfInvalidItems(t *testing.T) {
	for _, x := range invalidItems() {
		wantNoRegret(t, []impl.Item{x})
		for at := range 6 {
			wantNoRegret(t, slices.Insert(validItems(5), at, x))
		}
	}
	for at := range impl.MaxItems - 1 {
		l := tower(impl.MaxItems)
		l[at], l[at+1] = l[at+1], l[at]
		wantNoRegret(t, l)
		l = tower(impl.MaxItems)
		l[at+1].Id = l[at].Id
		wantNoRegret(t, l)
	}
	wantNoRegret(t, []impl.Item{item(3, 1, 2, 3), item(3, 1, 2, 3)})
	wantNoRegret(t, []impl.Item{item(3, 1, 2, 3), item(2, 1, 2, 3)})
	// Also if another argument is not valid.
	wantSmallest(t, []impl.Item{item(3, 1, 2)}, 0, 0, nil, false)
	wantRegret(t, []impl.Item{item(3, 1, 2)}, []int{4}, 0, 1)
}

// Memory and state.

func TestRegretSharesNoMemory(t *testing.T) {
	l, ids := append(threeItems(), item(9, 1, 1, 0)), []int{1, 2, 3, 77}
	wantItems, wantRow := copyOfItems(l), slices.Clone(ids)
	for range 2 {
		wantOwnLists(t, impl.WeightLists())
		_, _, first := impl.RegretOf(l, ids[:2])
		_, _, second := impl.RegretOf(l, ids[:2])
		smallest, _ := impl.SmallestSet(l, 0, 1)
		again, _ := impl.SmallestSet(l, 0, 1)
		wantOwnLists(t, append(impl.WeightLists(), first, second, smallest, again, impl.GreedySet(l, 4), impl.GreedySet(l, 2)))
		if !reflect.DeepEqual(l, wantItems) || !slices.Equal(ids, wantRow) {
			t.Fatalf("with the results, the arguments became %v and %v", l, ids)
		}
		wantRegret(t, l, ids[:2], 2, 6, 1, 1, 0)
		wantSmallest(t, l, 1, 4, []int{3}, true)
		wantAllWeights(t)
	}
}

func TestRegretDoesNotModifyArguments(t *testing.T) {
	items := append(tower(10), item(-4, 1, 2, 3), item(3, 1, 2), item(3, 1, 2, 10))
	row := []int{9, 4, 3, 1, 2, 0, 4, 44, 39, -1}
	wantItems, wantRow := copyOfItems(items), slices.Clone(row)
	for from := range len(items) + 1 {
		for to := from; to <= len(items); to++ {
			l := items[from:to]
			impl.SmallestSet(l, to-from, 13)
			impl.GreedySet(l, to-from)
			for start := range len(row) {
				ids := row[start:min(start+3, len(row))]
				impl.BestUtility(l, ids, ids)
				impl.RegretOf(l, ids)
				impl.RegretOf(l, ids[:1])
			}
		}
	}
	for start := range len(row) - 2 {
		impl.UtilityOf(items[1], row[start:start+3])
	}
	if !reflect.DeepEqual(items, wantItems) || !slices.Equal(row, wantRow) {
		t.Errorf("the arguments became %v and %v", items, row)
	}
}

func TestRegretKeepsNoState(t *testing.T) {
	l, ids := threeItems(), []int{3}
	for i := range 6 {
		// The same memory holds another last item in every second round, and another set in every third one.
		l[2].Values[0], ids[0] = 3+i%2*6, 1+i%3
		switch {
		case i%2 == 0:
			want := []loss{{4, 4, []int{0, 1, 0}}, {4, 4, []int{1, 0, 0}}, {1, 4, []int{0, 1, 0}}}[i%3]
			wantRegrets(t, l, []chosen{{ids, want}})
			wantSmallest(t, l, 1, 5, []int{1, 2, 3}, true)
			wantGreedy(t, l, 2, 3, 1)
		default:
			want := []loss{{4, 4, []int{0, 1, 0}}, {9, 9, []int{1, 0, 0}}, {1, 4, []int{0, 1, 0}}}[i%3]
			wantRegrets(t, l, []chosen{{ids, want}})
			wantSmallest(t, l, 1, 5, []int{2, 3}, true)
			wantGreedy(t, l, 2, 3, 2)
		}
		wantUtility(t, l[2], []int{1, 1, 1}, l[2].Values[0]+3)
		wantBestUtility(t, l, []int{1, 3}, []int{1, 0, 0}, max(4, l[2].Values[0]))
	}
}
