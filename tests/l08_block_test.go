package tests

// Promise 5, as far as blocks and halves go: the answer contains exactly the items that no other one is better than, however it is found.

import (
	"maps"
	"math"
	"math/rand"
	"reflect"
	"runtime"
	"slices"
	"testing"
	"time"

	"loop.example/g01987/impl"
)

// passesOf counts the passes for valid arguments without the program, with a window that holds when each item has entered it.
func passesOf(l []impl.Item, e []impl.Node, window int) int {
	r, passes := relationOf(e, l), 0
	left := indicesOf(l)
	for ; len(left) > 0; passes++ {
		entered, aside, firstAside := map[int]int{}, []int(nil), math.MaxInt
		for time, x := range left {
			if anyBetter(r, slices.Collect(maps.Keys(entered)), x) {
				continue
			}
			maps.DeleteFunc(entered, func(y, _ int) bool { return r.better[x][y] })
			if len(entered) < window {
				entered[x] = time
			} else {
				aside, firstAside = append(aside, x), min(firstAside, time)
			}
		}
		for _, x := range left {
			if time, ok := entered[x]; ok && time > firstAside {
				aside = append(aside, x)
			}
		}
		left = aside
	}
	return passes
}

// comparisonsOf counts what DivideBest counts, and finds the best of each part in the relation.
func comparisonsOf(r relation, part []int) int {
	if len(part) < 2 {
		return 0
	}
	first, others := part[:len(part)/2], part[len(part)/2:]
	return comparisonsOf(r, first) + comparisonsOf(r, others) + len(bestOfPart(r, first))*len(bestOfPart(r, others))
}

func bestOfPart(r relation, part []int) []int {
	var best []int
	for _, x := range part {
		if !anyBetter(r, part, x) {
			best = append(best, x)
		}
	}
	return best
}

func anyBetter(r relation, part []int, x int) bool {
	return slices.ContainsFunc(part, func(y int) bool { return r.better[y][x] })
}

func indicesOf(l []impl.Item) []int {
	var indices []int
	for i := range l {
		indices = append(indices, i)
	}
	return indices
}

// mergedOf is MergeBest for valid items and an expression, found in the relation.
func mergedOf(l []impl.Item, e []impl.Node, a, b []int) []int {
	r, ids := relationOf(e, l), idsAt(l, indicesOf(l)...)
	var merged []int
	for _, sides := range [][2][]int{{a, b}, {b, a}} {
		for _, id := range sides[0] {
			x := slices.Index(ids, id)
			if x < 0 {
				return nil
			}
			if !slices.ContainsFunc(sides[1], func(other int) bool { y := slices.Index(ids, other); return y >= 0 && r.better[y][x] }) {
				merged = append(merged, id)
			}
		}
	}
	slices.Sort(merged)
	return merged
}

func idsAt(l []impl.Item, indices ...int) []int {
	var ids []int
	for _, i := range indices {
		ids = append(ids, l[i].Id)
	}
	return ids
}

func wantBlock(t *testing.T, l []impl.Item, e []impl.Node, window int, want []int, passes int) {
	t.Helper()
	got, n := impl.BlockBest(l, e, window)
	if !slices.Equal(got, want) || n != passes {
		t.Errorf("BlockBest of %v by %s with a window for %d = %v, %d, want %v, %d", l, formatOfNodes(e), window, got, n, want, passes)
	}
}

func wantDivided(t *testing.T, l []impl.Item, e []impl.Node, want []int, comparisons int) {
	t.Helper()
	got, n := impl.DivideBest(l, e)
	if !slices.Equal(got, want) || n != comparisons {
		t.Errorf("DivideBest of %v by %s = %v, %d, want %v, %d", l, formatOfNodes(e), got, n, want, comparisons)
	}
}

func wantMerged(t *testing.T, l []impl.Item, e []impl.Node, a, b, want []int) {
	t.Helper()
	got := impl.MergeBest(l, e, a, b)
	if !slices.Equal(got, want) {
		t.Errorf("MergeBest of %v and %v of %v by %s = %v, want %v", a, b, l, formatOfNodes(e), got, want)
	}
}

// wantFound checks BlockBest for all windows, and DivideBest, against the relation.
func wantFound(t *testing.T, l []impl.Item, e []impl.Node) {
	t.Helper()
	best := answersOf(l, e).best
	for window := 1; window <= impl.MaxItems; window++ {
		wantBlock(t, l, e, window, best, passesOf(l, e, window))
	}
	wantDivided(t, l, e, best, comparisonsOf(relationOf(e, l), indicesOf(l)))
}

// wantNotFound checks the fixed results of items or an expression that are not valid.
func wantNotFound(t *testing.T, l []impl.Item, e []impl.Node) {
	t.Helper()
	for _, window := range []int{-1, 0, 1, 2, 16, 17} {
		wantBlock(t, l, e, window, nil, 0)
	}
	wantDivided(t, l, e, nil, 0)
	ids := impl.IdsOf(l[:min(len(l), 20)])
	wantMerged(t, l, e, nil, nil, nil)
	wantMerged(t, l, e, ids, nil, nil)
	wantMerged(t, l, e, nil, ids, nil)
	wantMerged(t, l, e, ids, ids, nil)
	wantMerged(t, l, e, []int{0}, []int{99}, nil)
}

// numbered returns items with these values of the field 0, and the Ids from 1 on.
func numbered(values ...int) []impl.Item {
	var l []impl.Item
	for i, v := range values {
		l = append(l, item(i+1, v, 0, 0))
	}
	return l
}

func TestBlockBest(t *testing.T) {
	for _, c := range []struct {
		s      string
		best   []int
		passes []int // with a window for one item, two items, and so on; as many as the last one with all others
	}{
		{"low f0; low f1; and", []int{1, 2, 3}, []int{3, 2, 1}},
		{"low f0", []int{1}, []int{1}},
		{"high f0", []int{3}, []int{1}},
		{"high f1", []int{1, 5}, []int{2, 1}},
		{"low f2", []int{1, 2, 3, 4, 5}, []int{5, 3, 2, 2, 1}},
		{"high f1; high f0; then", []int{5}, []int{1}},
		{"order f0 3>2,3>4", []int{2, 3, 5}, []int{3, 2, 1}},
		{"order f0 none", []int{1, 2, 3, 4, 5}, []int{5, 3, 2, 2, 1}},
		{"low f0; low f1; and; not", []int{3, 4, 5}, []int{5, 3, 1}},
	} {
		for window := 1; window <= impl.MaxItems; window++ {
			wantBlock(t, fiveItems(), reading(t, c.s), window, c.best, c.passes[min(window, len(c.passes))-1])
		}
	}
}

func TestLateOnesAreReadAgain(t *testing.T) {
	for _, c := range []struct {
		s      string
		values []int
		best   []int
		passes []int
	}{
		// The third item replaces the first one, but the second one was put aside before that.
		{"order f0 0>1", []int{1, 2, 0}, []int{2, 3}, []int{3, 1}},
		// The third item replaces the first one before any is put aside.
		{"order f0 0>1", []int{1, 0, 2}, []int{2, 3}, []int{2, 1}},
		// With a window for two, the fifth item enters it although the third one, which was put aside, is better.
		{"order f0 0>1,0>2,3>4", []int{1, 2, 3, 0, 4}, []int{3, 4}, []int{4, 2, 1}},
		// What is put aside comes before the rest of the window: again and again, the last item replaces the first one.
		{"order f0 0>1,0>3", []int{1, 3, 5, 0}, []int{3, 4}, []int{4, 2, 1}},
		{"order f0 0>1,0>3,0>5", []int{1, 3, 5, 7, 0}, []int{4, 5}, []int{5, 2, 2, 1}},
		// One that was put aside is worse than one that comes later.
		{"order f0 0>2", []int{1, 2, 0}, []int{1, 3}, []int{2, 1}},
		// One of the early ones leaves the window, and one of them stays.
		{"order f0 0>1", []int{1, 2, 3, 0}, []int{2, 3, 4}, []int{4, 2, 1}},
		{"order f0 0>2", []int{1, 2, 3, 0}, []int{1, 3, 4}, []int{4, 2, 1}},
	} {
		for window := 1; window <= impl.MaxItems; window++ {
			wantBlock(t, numbered(c.values...), reading(t, c.s), window, c.best, c.passes[min(window, len(c.passes))-1])
		}
	}
}

func TestOnlyTheWindowDropsItems(t *testing.T) {
	// The sixth item enters the window late, although one that was put aside is better than it, and so keeps the eighth one out.
	wantBlock(t, numbered(9, 9, 1, 9, 5, 0, 2, 5), reading(t, "order f0 1>0,5>9"), 2, []int{3, 5, 7, 8}, 4)
	// The same for the seventh and eighth ones, which saves a pass.
	wantBlock(t, numbered(9, 9, 3, 1, 6, 0, 3, 4, 7), reading(t, "order f0 6>3,4>1,0>9"), 2, []int{5, 6, 8, 9}, 3)
	// With a window for three, the same costs a pass.
	wantBlock(t, numbered(3, 3, 0, 3, 5, 3, 8, 2, 0), reading(t, "order f0 5>2,9>5,8>3"), 3, []int{3, 5, 7, 9}, 3)
}

func TestBlockBestInAscendingOrder(t *testing.T) {
	// The last item is found before the others that were put aside.
	l := numbered(1, 1, 5, 6, 7, 0)
	e := nodes(orderWish(0, pairs(0, 1)))
	for window := 1; window <= 6; window++ {
		wantBlock(t, l, e, window, []int{3, 4, 5, 6}, passesOf(l, e, window))
	}
}

// Edge case: a window for one item.

func TestWindowForOneItem(t *testing.T) {
	for count := range impl.MaxItems + 1 {
		wantBlock(t, tower(count), towerOrder(), 1, impl.IdsOf(tower(count)[:min(count, 1)]), min(count, 1))
		// Each item replaces the one before it.
		upward := nodes(towerOrder(), impl.OpDual)
		wantBlock(t, tower(count), upward, 1, impl.IdsOf(tower(count)[max(count-1, 0):]), min(count, 1))
		wantBlock(t, twins(count, 3, 0, 9), towerOrder(), 1, impl.IdsOf(twins(count, 3, 0, 9)), count)
	}
	for count := range 11 {
		wantBlock(t, rivals(count), rivalOrder(), 1, impl.IdsOf(rivals(count)), count)
	}
}

func TestWindowForOneItemFindsOneInAPass(t *testing.T) {
	source := rand.New(rand.NewSource(80))
	for _, e := range someExpressions(2) {
		l := randomItems(source, source.Intn(impl.MaxItems+1), 2+source.Intn(9))
		best, passes := impl.BlockBest(l, e, 1)
		if !slices.Equal(best, answersOf(l, e).best) || passes < len(best) || passes > len(l) {
			t.Errorf("BlockBest of %v by %s with a window for one item = %v, %d", l, formatOfNodes(e), best, passes)
		}
	}
}

func TestWindowForOneItemReadsOneItem(t *testing.T) {
	for _, e := range someExpressions(1) {
		wantBlock(t, nil, e, 1, nil, 0)
		wantBlock(t, []impl.Item{}, e, 1, nil, 0)
		wantBlock(t, []impl.Item{item(7, 3, 0, 9)}, e, 1, []int{7}, 1)
	}
}

func TestDivideBest(t *testing.T) {
	for _, c := range []struct {
		s           string
		best        []int
		comparisons int
	}{
		{"low f0; low f1; and", []int{1, 2, 3}, 10},
		{"low f0", []int{1}, 4},
		{"high f0", []int{3}, 4},
		{"high f1", []int{1, 5}, 4},
		{"low f2", []int{1, 2, 3, 4, 5}, 10},
		{"order f0 none", []int{1, 2, 3, 4, 5}, 10},
		{"order f0 3>2,3>4", []int{2, 3, 5}, 5},
		{"low f0; low f1; and; not", []int{3, 4, 5}, 10},
	} {
		wantDivided(t, fiveItems(), reading(t, c.s), c.best, c.comparisons)
	}
}

func TestDivideBestRoundsDown(t *testing.T) {
	e := nodes(orderWish(0, pairs(1, 2)))
	wantDivided(t, numbered(5, 1, 2), e, []int{1, 2}, 2)
	wantDivided(t, numbered(1, 2, 5), e, []int{1, 3}, 3)
	wantDivided(t, numbered(2, 1, 5), e, []int{2, 3}, 3)
	wantDivided(t, numbered(1, 2), e, []int{1}, 1)
	wantDivided(t, numbered(2, 1), e, []int{2}, 1)
	wantDivided(t, numbered(5, 6, 1, 2, 2), e, []int{1, 2, 3}, 1+1+1*2+2*1)
	wantDivided(t, numbered(1, 2, 2, 5, 6, 7, 8), e, []int{1, 4, 5, 6, 7}, 1+1*2+1+1+2*2+1*4)
}

func TestDivideBestOfFewItems(t *testing.T) {
	for _, e := range someExpressions(1) {
		wantDivided(t, nil, e, nil, 0)
		wantDivided(t, []impl.Item{}, e, nil, 0)
		wantDivided(t, []impl.Item{item(7, 3, 0, 9)}, e, []int{7}, 0)
	}
}

func TestMergeBest(t *testing.T) {
	for _, c := range []struct{ a, b, want []int }{
		{[]int{1, 4}, []int{2}, []int{1, 2}},
		{[]int{2}, []int{1, 4}, []int{1, 2}},
		{[]int{1, 2}, []int{3, 4, 5}, []int{1, 2, 3}},
		{[]int{1, 2}, []int{3}, []int{1, 2, 3}},
		{[]int{4}, []int{2}, []int{2}},
		{[]int{2}, []int{4}, []int{2}},
		{[]int{4}, []int{5}, []int{4, 5}},
		{[]int{4, 5}, []int{3}, []int{3, 4, 5}},
		{[]int{4, 5}, []int{2, 3}, []int{2, 3}},
		// The elements of one list are not compared with each other.
		{[]int{1, 5}, nil, []int{1, 5}},
		{nil, []int{1, 5}, []int{1, 5}},
		{[]int{1, 2, 3, 4, 5}, []int{}, []int{1, 2, 3, 4, 5}},
		{[]int{1, 5}, []int{3}, []int{1, 3, 5}},
		// The lists may be in any order, the result is not.
		{[]int{3, 1}, []int{2}, []int{1, 2, 3}},
		{[]int{5, 3, 4, 1}, nil, []int{1, 3, 4, 5}},
		{[]int{3}, []int{4, 1}, []int{1, 3, 4}},
		// An element of both lists is there twice, and one that is twice in one list too.
		{[]int{1}, []int{1}, []int{1, 1}},
		{[]int{2, 4}, []int{2}, []int{2, 2}},
		{[]int{4, 5}, []int{4, 5}, []int{4, 4, 5, 5}},
		{[]int{1, 1, 5}, []int{3}, []int{1, 1, 3, 5}},
		{[]int{5, 5}, []int{1}, []int{1}},
		{nil, []int{3, 3, 3}, []int{3, 3, 3}},
		{nil, nil, nil},
	} {
		wantMerged(t, fiveItems(), rivalOrder(), c.a, c.b, c.want)
	}
}

func TestMergeBestComparesWithAll(t *testing.T) {
	l, e := tower(4), towerOrder()
	// An element drops others even if it is dropped itself.
	wantMerged(t, l, e, idsAt(l, 0, 2), idsAt(l, 1), idsAt(l, 0))
	wantMerged(t, l, e, idsAt(l, 1), idsAt(l, 0, 2), idsAt(l, 0))
	wantMerged(t, l, e, idsAt(l, 0, 2), idsAt(l, 1, 3), idsAt(l, 0))
	wantMerged(t, l, e, idsAt(l, 1, 3), idsAt(l, 0, 2), idsAt(l, 0))
	wantMerged(t, l, e, idsAt(l, 0, 1), idsAt(l, 2, 3), idsAt(l, 0, 1))
	wantMerged(t, l, e, idsAt(l, 2, 3), idsAt(l, 1), idsAt(l, 1))
	wantMerged(t, l, e, idsAt(l, 3, 2), nil, idsAt(l, 2, 3))
}

func TestMergeBestWithoutSuchAnItem(t *testing.T) {
	l, e := fiveItems(), rivalOrder()
	for _, id := range askedIds() {
		if slices.Contains(impl.IdsOf(l), id) {
			continue
		}
		wantMerged(t, nil, e, []int{id}, nil, nil)
		wantMerged(t, nil, e, nil, []int{id}, nil)
		for at := range 4 {
			with := slices.Insert([]int{1, 2, 3}, at, id)
			wantMerged(t, l, e, with, nil, nil)
			wantMerged(t, l, e, nil, with, nil)
			wantMerged(t, l, e, with, []int{4}, nil)
			wantMerged(t, l, e, []int{4}, with, nil)
			wantMerged(t, l, e, with, with, nil)
		}
	}
	for _, id := range []int{1, 2, 3, 4, 5} {
		wantMerged(t, nil, e, []int{id}, nil, nil)
		wantMerged(t, nil, e, nil, []int{id}, nil)
	}
	ends := []impl.Item{item(0, 1, 1, 0), item(99, 1, 1, 0)}
	wantMerged(t, ends, e, []int{0}, []int{99}, []int{0, 99})
	wantMerged(t, ends, e, []int{99}, []int{0}, []int{0, 99})
	wantMerged(t, ends, e, []int{99}, []int{-1}, nil)
	wantMerged(t, ends, e, []int{100}, []int{0}, nil)
}

// Agreement with the relation, and of all ways with each other.

func TestBlocksAndHalvesAgreeWithRelations(t *testing.T) {
	source := rand.New(rand.NewSource(81))
	for _, e := range someExpressions(2) {
		wantFound(t, randomItems(source, source.Intn(impl.MaxItems+1), 2+source.Intn(9)), e)
	}
}

func TestBlocksAndHalvesAgreeWithRelationsForAllWishes(t *testing.T) {
	source := rand.New(rand.NewSource(82))
	for field := range impl.FieldCount {
		for _, w := range fewWishes(field) {
			wantFound(t, randomItems(source, impl.MaxItems, 10), nodes(w))
			wantFound(t, randomItems(source, impl.MaxItems, 10), nodes(w, impl.OpDual))
		}
	}
}

func TestBlocksAndHalvesOfManyBest(t *testing.T) {
	// Orders in which items come before or behind what they are better than, so that windows keep, lose and gain items late.
	source := rand.New(rand.NewSource(83))
	for _, s := range []string{"order f0 0>1,0>2,3>4", "order f0 0>1,0>3,5>6", "order f0 0>1,1>2,3>4,4>5,3>6,6>7", "low f0; low f1; and", "low f0; high f1; and; low f2; and"} {
		e := reading(t, s)
		for range 60 {
			wantFound(t, randomItems(source, 6+source.Intn(11), 10), e)
		}
	}
}

func TestMergeBestAgreesWithRelations(t *testing.T) {
	source := rand.New(rand.NewSource(84))
	for _, e := range someExpressions(2) {
		l := randomItems(source, 1+source.Intn(impl.MaxItems), 2+source.Intn(9))
		for range 4 {
			var lists [2][]int
			for side := range lists {
				for range source.Intn(12) {
					lists[side] = append(lists[side], l[source.Intn(len(l))].Id)
				}
			}
			wantMerged(t, l, e, lists[0], lists[1], mergedOf(l, e, lists[0], lists[1]))
		}
	}
}

func TestMergeBestOfBothParts(t *testing.T) {
	source := rand.New(rand.NewSource(85))
	for _, e := range someExpressions(2) {
		l := randomItems(source, source.Intn(impl.MaxItems+1), 2+source.Intn(9))
		var parts [2][]impl.Item
		for _, x := range l {
			side := source.Intn(2)
			parts[side] = append(parts[side], x)
		}
		wantMerged(t, l, e, impl.BestItems(parts[0], e), impl.BestItems(parts[1], e), answersOf(l, e).best)
	}
}

func TestAllWaysFindTheSame(t *testing.T) {
	source := rand.New(rand.NewSource(86))
	for _, e := range someExpressions(1) {
		l := randomItems(source, impl.MaxItems, 10)
		best := impl.BestItems(l, e)
		divided, _ := impl.DivideBest(l, e)
		wantIds(t, "DivideBest", l, e, divided, best)
		for window := 1; window <= impl.MaxItems; window++ {
			found, passes := impl.BlockBest(l, e, window)
			wantIds(t, "BlockBest", l, e, found, best)
			if passes < 1 || passes > len(l) || window == impl.MaxItems && passes != 1 {
				t.Errorf("%d passes with a window for %d of %v by %s", passes, window, l, formatOfNodes(e))
			}
		}
	}
}

// Values at and beyond each limit.

func TestWindowsAtAndBeyondTheLimits(t *testing.T) {
	for window := 1; window <= impl.MaxItems; window++ {
		for count := range impl.MaxItems + 1 {
			l := twins(count, 3, 0, 9)
			wantBlock(t, l, towerOrder(), window, impl.IdsOf(l), (count+window-1)/window)
			wantBlock(t, tower(count), towerOrder(), window, impl.IdsOf(tower(count)[:min(count, 1)]), min(count, 1))
		}
		for count := range 11 {
			wantBlock(t, rivals(count), rivalOrder(), window, impl.IdsOf(rivals(count)), (count+window-1)/window)
		}
	}
	for _, window := range []int{0, -1, -2, -16, 17, 18, 100, 1 << 8, 1<<8 + 1, 1 << 32, 1<<32 + 1, math.MaxInt, math.MinInt, math.MinInt + 1} {
		for count := range impl.MaxItems + 1 {
			wantBlock(t, tower(count), towerOrder(), window, nil, 0)
			wantBlock(t, twins(count, 3, 0, 9), rivalOrder(), window, nil, 0)
		}
	}
}

func TestNumberOfItemsInHalves(t *testing.T) {
	for count := range impl.MaxItems + 1 {
		wantDivided(t, tower(count), towerOrder(), impl.IdsOf(tower(count)[:min(count, 1)]), max(count-1, 0))
		wantDivided(t, twins(count, 3, 0, 9), towerOrder(), impl.IdsOf(twins(count, 3, 0, 9)), count*(count-1)/2)
	}
	for count := range 11 {
		wantDivided(t, rivals(count), rivalOrder(), impl.IdsOf(rivals(count)), count*(count-1)/2)
	}
}

func TestNumberOfItemsMerged(t *testing.T) {
	l := twins(impl.MaxItems, 3, 0, 9)
	ids := impl.IdsOf(l)
	for at := range len(ids) + 1 {
		wantMerged(t, l, towerOrder(), ids[:at], ids[at:], ids)
		wantMerged(t, l, towerOrder(), ids[at:], ids[:at], ids)
	}
	row := impl.IdsOf(tower(impl.MaxItems))
	for at := 1; at < impl.MaxItems; at++ {
		wantMerged(t, tower(impl.MaxItems), towerOrder(), row[:at], row[at:], row[:at])
		wantMerged(t, tower(impl.MaxItems), towerOrder(), row[at:], row[:at], row[:at])
	}
	// The lists may be longer than the items.
	many, ones, fives := slices.Repeat([]int{1, 5}, 60), slices.Repeat([]int{1}, 60), slices.Repeat([]int{5}, 60)
	wantMerged(t, fiveItems(), rivalOrder(), many, []int{3}, slices.Concat(ones, []int{3}, fives))
	wantMerged(t, fiveItems(), rivalOrder(), []int{2, 3}, many, slices.Concat(ones, []int{2, 3}))
}

func TestTooManyItemsForBlocksAndHalves(t *testing.T) {
	for _, count := range []int{17, 18, 20, 32, 33, 256, 272, 5000} {
		wantNotFound(t, tower(count), towerOrder())
		many := slices.Repeat(twins(1, 1, 2, 3), count)
		for i := range many {
			many[i].Id = i
		}
		wantNotFound(t, many, towerOrder())
	}
	// Ids in the range, so that only the number of items is beyond the limit.
	row := numbered(slices.Repeat([]int{3, 1, 2}, 6)...)
	wantNotFound(t, row, towerOrder())
	wantNotFound(t, row[:17], towerOrder())
	wantFound(t, row[:16], towerOrder())
	wantFound(t, row[1:17], towerOrder())
}

func TestIdsAndValuesAtTheLimitsOfBlocksAndHalves(t *testing.T) {
	for field := range impl.FieldCount {
		x, y := item(0, 5, 5, 5), item(99, 5, 5, 5)
		x.Values[field], y.Values[field] = 9, 0
		l := []impl.Item{x, y}
		for window := 1; window <= impl.MaxItems; window++ {
			wantBlock(t, l, nodes(lowWish(field)), window, []int{99}, 1)
			wantBlock(t, l, nodes(highWish(field)), window, []int{0}, 1)
		}
		wantDivided(t, l, nodes(lowWish(field)), []int{99}, 1)
		wantDivided(t, l, nodes(highWish(field)), []int{0}, 1)
		wantMerged(t, l, nodes(lowWish(field)), []int{0}, []int{99}, []int{99})
		wantMerged(t, l, nodes(highWish(field)), []int{0}, []int{99}, []int{0})
		for _, v := range farValues {
			y.Values[field] = v
			wantNotFound(t, l, nodes(lowWish((field+1)%3)))
		}
	}
}

func TestExpressionsAtAndBeyondTheLimitOfBlocksAndHalves(t *testing.T) {
	l, duals := fiveItems(), slices.Repeat(nodes(impl.OpDual), 10)
	wantFound(t, l, nodes(lowWish(0), duals[:8]))
	wantFound(t, l, nodes(lowWish(0), duals[:7]))
	wantNotFound(t, l, nodes(lowWish(0), duals[:9]))
	wantNotFound(t, l, nodes(lowWish(0), duals))
	four := nodes(lowWish(0), slices.Repeat(nodes(lowWish(1), impl.OpPareto), 4))
	wantFound(t, l, four)
	wantNotFound(t, l, nodes(four, impl.OpDual))
	wantNotFound(t, l, nodes(four, lowWish(2), impl.OpPareto))
}

// Invalid arguments.

func TestBlocksAndHalvesOfInvalidItems(t *testing.T) {
	for _, x := range invalidItems() {
		wantNotFound(t, []impl.Item{x}, rivalOrder())
		for at := range 6 {
			wantNotFound(t, slices.Insert(validItems(5), at, x), rivalOrder())
		}
	}
	for at := range impl.MaxItems - 1 {
		l := tower(impl.MaxItems)
		l[at], l[at+1] = l[at+1], l[at]
		wantNotFound(t, l, towerOrder())
		l = tower(impl.MaxItems)
		l[at+1].Id = l[at].Id
		wantNotFound(t, l, towerOrder())
	}
	wantNotFound(t, []impl.Item{item(3, 1, 2, 3), item(3, 1, 2, 3)}, rivalOrder())
}

func TestBlocksAndHalvesByInvalidExpressions(t *testing.T) {
	for _, e := range invalidExpressions() {
		wantNotFound(t, fiveItems(), e)
		wantNotFound(t, []impl.Item{item(1, 2, 3, 4)}, e)
		wantNotFound(t, nil, e)
		wantNotFound(t, []impl.Item{item(-1, 2, 3, 4)}, e)
		wantMerged(t, fiveItems(), e, []int{1, 4}, []int{2}, nil)
	}
}

func TestBlocksAndHalvesTakeEmptyListsForNil(t *testing.T) {
	e := []impl.Node{
		{Wish: impl.Wish{List: []int{}, Pairs: []impl.Pair{}}},
		{Wish: impl.Wish{Field: 1, List: []int{7}[:0]}},
		{Op: impl.OpPareto, Wish: impl.Wish{List: []int{}, Pairs: pairs(0, 1)[:0]}},
	}
	wantBlock(t, fiveItems(), e, 2, []int{1, 2, 3}, 2)
	wantDivided(t, fiveItems(), e, []int{1, 2, 3}, 10)
	wantMerged(t, fiveItems(), e, []int{4, 9}[:1], []int{2, 9}[:1], []int{2})
	wantMerged(t, fiveItems(), e, []int{9}[:0], []int{}, nil)
}

// Memory and state.

func TestBlocksAndHalvesShareNoMemory(t *testing.T) {
	l, e := fiveItems(), nodes(amongWish(0, 2, 3), orderWish(1, pairs(3, 5)), impl.OpPareto)
	a, b := []int{5, 3, 1, 99}, []int{2, 4, 98}
	wantItems, wantNodes := copyOfItems(l), copyOfNodes(e)
	for range 2 {
		var lists [][]int
		for window := 1; window <= impl.MaxItems; window++ {
			best, _ := impl.BlockBest(l, e, window)
			lists = append(lists, best)
		}
		divided, _ := impl.DivideBest(l, e)
		lists = append(lists, divided, impl.MergeBest(l, e, a[:3], nil), impl.MergeBest(l, e, nil, b[:2]), impl.MergeBest(l, e, a[:3], b[:2]))
		for _, list := range lists {
			list = list[:cap(list)]
			for i := range list {
				list[i] = 77
			}
		}
		if !reflect.DeepEqual(l, wantItems) || !reflect.DeepEqual(e, wantNodes) || !slices.Equal(a, []int{5, 3, 1, 99}) || !slices.Equal(b, []int{2, 4, 98}) {
			t.Fatalf("with the results, the arguments became %v, %v, %v and %v", l, e, a, b)
		}
		wantFound(t, l, e)
	}
}

func TestBlocksAndHalvesDoNotModifyArguments(t *testing.T) {
	items := append(tower(18), item(-4, 1, 2, 3), item(3, 1, 2), item(3, 1, 2, 10))
	row := nodes(amongWish(0, 1, 3), amongWish(0, 1, 3), impl.OpPareto, impl.OpDual, orderWish(1, pairs(2, 1, 1, 0)), impl.OpMeet, nearWish(0, 12), -7)
	ids := []int{44, 9, 4, 39, 9, 14, -3, 4}
	wantItems, wantRow, wantList := copyOfItems(items), copyOfNodes(row), slices.Clone(ids)
	for from := range len(items) + 1 {
		for to := from; to <= len(items); to++ {
			for end := range len(row) + 1 {
				l, e := items[from:to], row[:end]
				impl.BlockBest(l, e, 1)
				impl.BlockBest(l, e, 3)
				impl.DivideBest(l, e)
				impl.MergeBest(l, e, ids[:3], ids[3:5])
				impl.MergeBest(l, e, ids[2:], ids[:6])
			}
		}
	}
	if !reflect.DeepEqual(items, wantItems) || !reflect.DeepEqual(row, wantRow) || !slices.Equal(ids, wantList) {
		t.Errorf("the arguments became %v, %v and %v", items, row, ids)
	}
}

func TestBlocksAndHalvesKeepNoState(t *testing.T) {
	l, e := []impl.Item{item(1, 1, 0, 0), item(2, 2, 0, 0), item(3, 1, 0, 0)}, nodes(lowWish(0))
	for i := range 6 {
		// The same memory holds other items and another expression in every second and third round.
		l[1].Values[0] = 2 * (i % 2)
		e[0].Wish.Kind = []int{impl.WishLow, impl.WishHigh, impl.WishLow}[i%3]
		if (l[1].Values[0] == 2) == (e[0].Wish.Kind == impl.WishLow) {
			wantBlock(t, l, e, 1, []int{1, 3}, 2)
			wantDivided(t, l, e, []int{1, 3}, 2)
			wantMerged(t, l, e, []int{1, 2}, []int{3}, []int{1, 3})
		} else {
			wantBlock(t, l, e, 1, []int{2}, 1)
			wantDivided(t, l, e, []int{2}, 2)
			wantMerged(t, l, e, []int{1, 2}, []int{3}, []int{1, 2})
		}
	}
}

func TestHalvesOfManyCallsAtOnce(t *testing.T) {
	// The arguments change when all calls have returned, and only then.
	l := twins(impl.MaxItems, 3, 0, 9)
	for round := range 20 {
		l[round%impl.MaxItems].Values[0] = round % 2 * 9
		want, comparisons := answersOf(l, rivalOrder()).best, comparisonsOf(relationOf(rivalOrder(), l), indicesOf(l))
		same := make(chan bool)
		for range 16 {
			go func() {
				best, n := impl.DivideBest(l, rivalOrder())
				same <- slices.Equal(best, want) && n == comparisons
			}()
		}
		for range 16 {
			if !<-same {
				t.Errorf("DivideBest of %v differs from call to call", l)
			}
		}
	}
}

// wantNoMoreRunning waits for goroutines to end: one that has done its work may take a moment.
func wantNoMoreRunning(t *testing.T, before int) {
	t.Helper()
	for wait := 0; runtime.NumGoroutine() > before; wait++ {
		if wait == 2000 {
			t.Fatalf("%d goroutines ran before the calls, %d run after them", before, runtime.NumGoroutine())
		}
		time.Sleep(time.Millisecond)
	}
}

func TestHalvesLeaveNothingRunning(t *testing.T) {
	before := runtime.NumGoroutine()
	for range 200 {
		impl.DivideBest(twins(impl.MaxItems, 3, 0, 9), rivalOrder())
	}
	wantNoMoreRunning(t, before)
}
