package tests

// Promise 6: layers, bands and chains agree with the order.

import (
	"math"
	"math/rand"
	"reflect"
	"runtime"
	"slices"
	"testing"

	"loop.example/g01987/impl"
)

// layering is what chapter 10 says of items and an expression, except for bands. Each depth and each chain belongs to the item at the same index.
type layering struct {
	layers      [][]int
	depths      []int
	chains      [][]int
	progressive []int
}

// layeringOf finds the layering for valid arguments without the program, and without taking layers away: the layer of an item is the length of its longest way up.
func layeringOf(l []impl.Item, e []impl.Node) layering {
	r := relationOf(e, l)
	a := layering{depths: depthsOf(r, len(l))}
	for depth := range len(l) {
		var layer []int
		for i, x := range l {
			if a.depths[i] == depth {
				layer = append(layer, x.Id)
			}
		}
		if layer != nil {
			a.layers = append(a.layers, layer)
		}
	}
	for i := range l {
		a.chains = append(a.chains, idsAt(l, chainUpFrom(r, a.depths, i)...))
	}
	for count := len(l) - 1; count >= 0; count-- {
		for i, x := range l {
			if a.depths[i] == 0 && worseThan(r, i) == count {
				a.progressive = append(a.progressive, x.Id)
			}
		}
	}
	return a
}

// depthsOf makes ways longer, again and again, as often as the longest possible one needs it.
func depthsOf(r relation, count int) []int {
	depths := make([]int, count)
	for range count {
		for i := range depths {
			for j := range depths {
				if r.better[i][j] {
					depths[j] = max(depths[j], depths[i]+1)
				}
			}
		}
	}
	return depths
}

// chainUpFrom returns the indices of a chain that ends at an index.
func chainUpFrom(r relation, depths []int, last int) []int {
	for i := range depths {
		if r.better[i][last] && depths[i] == depths[last]-1 {
			return append(chainUpFrom(r, depths, i), last)
		}
	}
	return []int{last}
}

func worseThan(r relation, i int) int {
	count := 0
	for _, better := range r.better[i] {
		if better {
			count++
		}
	}
	return count
}

// sizesOfBands are values just below, at and just beyond the numbers of items, and far from them.
func sizesOfBands() []int {
	sizes := []int{math.MinInt, math.MinInt + 1, -1 << 32, -100, -2, -1, 100, 1 << 8, 1 << 32, math.MaxInt - 1, math.MaxInt}
	for k := range impl.MaxItems + 3 {
		sizes = append(sizes, k)
	}
	return sizes
}

func wantLayers(t *testing.T, l []impl.Item, e []impl.Node, want ...[]int) {
	t.Helper()
	got := impl.LayersOf(l, e)
	if !slices.EqualFunc(got, want, slices.Equal) {
		t.Errorf("LayersOf %v by %s = %v, want %v", l, formatOfNodes(e), got, want)
	}
}

func wantLayer(t *testing.T, l []impl.Item, e []impl.Node, id, want int) {
	t.Helper()
	wantNumber(t, "LayerOf", l, e, impl.LayerOf(l, e, id), want)
}

func wantBand(t *testing.T, l []impl.Item, e []impl.Node, k int, want ...int) {
	t.Helper()
	got := impl.SkybandOf(l, e, k)
	if !slices.Equal(got, want) {
		t.Errorf("SkybandOf(%d) of %v by %s = %v, want %v", k, l, formatOfNodes(e), got, want)
	}
}

func wantProgressive(t *testing.T, l []impl.Item, e []impl.Node, want ...int) {
	t.Helper()
	wantIds(t, "ProgressiveBest", l, e, impl.ProgressiveBest(l, e), want)
}

// wantChain checks a chain that ends with an Id.
func wantChain(t *testing.T, l []impl.Item, e []impl.Node, want ...int) {
	t.Helper()
	wantIds(t, "ChainTo", l, e, impl.ChainTo(l, e, want[len(want)-1]), want)
}

// wantLayered checks all functions for valid arguments against what is found without the program.
func wantLayered(t *testing.T, l []impl.Item, e []impl.Node) {
	t.Helper()
	want, better := layeringOf(l, e), answersOf(l, e).better
	wantLayers(t, l, e, want.layers...)
	wantProgressive(t, l, e, want.progressive...)
	for i, x := range l {
		wantLayer(t, l, e, x.Id, want.depths[i])
		wantChain(t, l, e, want.chains[i]...)
	}
	for _, k := range sizesOfBands() {
		var band []int
		for i, x := range l {
			if len(better[i]) < k {
				band = append(band, x.Id)
			}
		}
		wantBand(t, l, e, k, band...)
	}
}

// wantNoLayer checks the results for an Id that no item has, or for arguments that are not valid.
func wantNoLayer(t *testing.T, l []impl.Item, e []impl.Node, id int) {
	t.Helper()
	wantLayer(t, l, e, id, -1)
	wantIds(t, "ChainTo", l, e, impl.ChainTo(l, e, id), nil)
}

// wantNotLayered checks the fixed results of items or an expression that are not valid.
func wantNotLayered(t *testing.T, l []impl.Item, e []impl.Node) {
	t.Helper()
	wantLayers(t, l, e)
	wantProgressive(t, l, e)
	for _, k := range []int{math.MinInt, -1, 0, 1, 2, 16, 17, math.MaxInt} {
		wantBand(t, l, e, k)
	}
	for _, id := range append([]int{-1, 0, 1, 4, 99, 100}, impl.IdsOf(l[:min(len(l), 20)])...) {
		wantNoLayer(t, l, e, id)
	}
}

func TestLayersOf(t *testing.T) {
	for s, want := range map[string][][]int{
		"low f0":                        {{1}, {2, 5}, {4}, {3}},
		"high f0":                       {{3}, {4}, {2, 5}, {1}},
		"low f0; not":                   {{3}, {4}, {2, 5}, {1}},
		"low f1":                        {{3}, {2}, {4}, {1, 5}},
		"low f2":                        {{1, 2, 3, 4, 5}},
		"near f0 4":                     {{4}, {2, 3, 5}, {1}},
		"among f0 3,5":                  {{2, 3, 5}, {1, 4}},
		"among f0 0,1":                  {{1, 2, 3, 4, 5}},
		"order f0 none":                 {{1, 2, 3, 4, 5}},
		"order f0 3>2,3>4":              {{2, 3, 5}, {1, 4}},
		"order f0 4>7,7>3":              {{1, 3, 4}, {2, 5}},
		"order f0 2>3,3>4,4>5":          {{1}, {2, 5}, {4}, {3}},
		"low f0; low f1; and":           {{1, 2, 3}, {4, 5}},
		"low f0; low f1; and; not":      {{3, 4, 5}, {1, 2}},
		"low f0; low f1; then":          {{1}, {2}, {5}, {4}, {3}},
		"low f1; low f0; then":          {{3}, {2}, {4}, {1}, {5}},
		"low f0; low f1; both":          {{1, 2, 3, 5}, {4}},
		"low f0; high f0; and":          {{1, 2, 3, 4, 5}},
		"low f0; low f0; not; and; not": {{1, 2, 3, 4, 5}},
	} {
		e := reading(t, s)
		wantLayers(t, fiveItems(), e, want...)
		for at, layer := range want {
			for _, id := range layer {
				wantLayer(t, fiveItems(), e, id, at)
			}
		}
	}
}

func TestSkybandOf(t *testing.T) {
	for s, want := range map[string][][]int{
		"low f0":                   {{}, {1}, {1, 2, 5}, {1, 2, 5}, {1, 2, 4, 5}, {1, 2, 3, 4, 5}, {1, 2, 3, 4, 5}},
		"low f2":                   {{}, {1, 2, 3, 4, 5}, {1, 2, 3, 4, 5}},
		"near f0 4":                {{}, {4}, {2, 3, 4, 5}, {2, 3, 4, 5}, {2, 3, 4, 5}, {1, 2, 3, 4, 5}},
		"order f0 3>2,3>4":         {{}, {2, 3, 5}, {2, 3, 5}, {1, 2, 3, 4, 5}},
		"low f0; low f1; and":      {{}, {1, 2, 3}, {1, 2, 3, 4}, {1, 2, 3, 4, 5}},
		"low f0; low f1; and; not": {{}, {3, 4, 5}, {1, 3, 4, 5}, {1, 2, 3, 4, 5}},
		"low f0; low f1; then":     {{}, {1}, {1, 2}, {1, 2, 5}, {1, 2, 4, 5}, {1, 2, 3, 4, 5}, {1, 2, 3, 4, 5}},
		"low f0; low f1; both":     {{}, {1, 2, 3, 5}, {1, 2, 3, 4, 5}},
	} {
		for k, band := range want {
			wantBand(t, fiveItems(), reading(t, s), k, band...)
		}
	}
}

func TestBandIsNotALayer(t *testing.T) {
	// Three items are better than 4, all of them in the first layer, and two are better than 5, one in each of the first layers.
	e := reading(t, "order f0 0>3,1>3,2>3,0>4,4>5")
	l := []impl.Item{item(1, 0, 0, 0), item(2, 1, 0, 0), item(3, 2, 0, 0), item(4, 3, 0, 0), item(5, 5, 0, 0), item(6, 4, 0, 0)}
	wantLayers(t, l, e, []int{1, 2, 3}, []int{4, 6}, []int{5})
	wantBand(t, l, e, 1, 1, 2, 3)
	wantBand(t, l, e, 2, 1, 2, 3, 6)
	wantBand(t, l, e, 3, 1, 2, 3, 5, 6)
	wantBand(t, l, e, 4, 1, 2, 3, 4, 5, 6)
}

func TestProgressiveBest(t *testing.T) {
	for s, want := range map[string][]int{
		"low f0":                   {1},
		"low f2":                   {1, 2, 3, 4, 5},
		"near f0 4":                {4},
		"near f0 3":                {2, 5},
		"among f0 3,5":             {2, 3, 5},
		"order f0 none":            {1, 2, 3, 4, 5},
		"order f0 3>2,3>4":         {2, 5, 3},
		"order f0 4>7,7>3":         {4, 1, 3},
		"order f0 5>4,3>2,5>2":     {3, 2, 5},
		"low f0; low f1; and":      {2, 1, 3},
		"low f0; low f1; and; not": {5, 4, 3},
		"low f0; low f1; both":     {2, 1, 3, 5},
		"high f1; high f0; then":   {5},
		"low f2; high f1; and":     {1, 5},
	} {
		wantProgressive(t, fiveItems(), reading(t, s), want...)
	}
}

func TestProgressiveBestCountsAllWorseItems(t *testing.T) {
	// The item 2 is better than three items in a row, and the item 1 than two of the second layer.
	e := reading(t, "order f0 0>1,0>2,3>4,4>5,5>6")
	l := []impl.Item{item(1, 0, 0, 0), item(2, 3, 0, 0), item(3, 1, 0, 0), item(4, 2, 0, 0), item(5, 4, 0, 0), item(6, 5, 0, 0), item(7, 6, 0, 0)}
	wantProgressive(t, l, e, 2, 1)
	wantProgressive(t, l[:6], e, 1, 2)
	wantProgressive(t, l[:4], e, 1, 2)
	wantProgressive(t, slices.Concat(l[:3], l[4:]), e, 2, 1)
}

func TestProgressiveBestOfTheSameNumber(t *testing.T) {
	// All numbers from 0 to 3 are there twice or more, in no order of the Ids.
	e := reading(t, "order f0 0>4,1>4,2>4,1>5,2>5,2>6")
	values := []int{3, 1, 0, 2, 7, 2, 0, 1, 3, 2, 4, 5, 6}
	l := numbered(values...)
	wantProgressive(t, l, e, 4, 6, 10, 2, 8, 3, 7, 1, 5, 9)
	wantLayered(t, l, e)
}

func TestChainTo(t *testing.T) {
	for _, c := range []struct {
		s      string
		chains [][]int
	}{
		{"low f0", [][]int{{1}, {1, 2}, {1, 5}, {1, 2, 4}, {1, 2, 4, 3}}},
		{"low f1", [][]int{{3}, {3, 2}, {3, 2, 4}, {3, 2, 4, 1}, {3, 2, 4, 5}}},
		{"low f2", [][]int{{1}, {2}, {3}, {4}, {5}}},
		{"near f0 4", [][]int{{4}, {4, 2}, {4, 3}, {4, 5}, {4, 2, 1}}},
		{"order f0 3>2,3>4", [][]int{{2}, {3}, {5}, {2, 1}, {2, 4}}},
		{"low f0; low f1; and", [][]int{{1}, {2}, {3}, {2, 4}, {1, 5}}},
		{"low f0; low f1; and; not", [][]int{{3}, {4}, {5}, {5, 1}, {4, 2}}},
		{"low f0; low f1; then", [][]int{{1}, {1, 2}, {1, 2, 5}, {1, 2, 5, 4}, {1, 2, 5, 4, 3}}},
		{"low f0; low f1; both", [][]int{{1}, {2}, {3}, {5}, {2, 4}}},
	} {
		for _, chain := range c.chains {
			wantChain(t, fiveItems(), reading(t, c.s), chain...)
		}
	}
}

func TestChainTakesTheFirstOfTheLayerBefore(t *testing.T) {
	// The items 1 and 2 are better than 4, and come before 3, but are not in the layer before.
	wantChain(t, numbered(0, 3, 1, 2), reading(t, "order f0 0>1,1>2,3>2"), 1, 3, 4)
	// The item 1 is in the layer before, but not better.
	wantChain(t, numbered(0, 2, 3), reading(t, "order f0 2>3,0>1"), 2, 3)
	// The first of those that are better has neither the smallest value nor the most items below.
	wantChain(t, numbered(1, 0, 2, 3), reading(t, "order f0 0>2,1>2,0>3"), 1, 3)
	// The last one has the smallest Id.
	wantChain(t, numbered(2, 1, 0), reading(t, "low f0"), 3, 2, 1)
	// Of items with the same values, it is the first one.
	wantChain(t, numbered(2, 1, 1, 0, 0), reading(t, "low f0"), 4, 2, 1)
	wantChain(t, numbered(2, 1, 1, 0, 0), reading(t, "low f0"), 4, 3)
}

func TestChainIsFoundFromItsEnd(t *testing.T) {
	// The first item of the first layer leads to the item 1 only, which is not better than 5.
	e := reading(t, "order f0 0>3,1>2,3>5,2>4,4>5")
	l := numbered(3, 2, 0, 1, 4, 5)
	wantLayers(t, l, e, []int{3, 4}, []int{1, 2}, []int{5}, []int{6})
	wantChain(t, l, e, 4, 2, 5, 6)
	wantChain(t, l, e, 4, 2, 5)
	wantChain(t, l, e, 4, 2)
	wantChain(t, l, e, 3, 1)
}

// Edge case: a chain through all layers.

func TestChainThroughAllLayers(t *testing.T) {
	for count := 1; count <= impl.MaxItems; count++ {
		l, e := tower(count), towerOrder()
		var layers [][]int
		for at, x := range l {
			layers = append(layers, []int{x.Id})
			wantLayer(t, l, e, x.Id, at)
			wantChain(t, l, e, impl.IdsOf(l[:at+1])...)
		}
		wantLayers(t, l, e, layers...)
		wantLayered(t, l, e)
		// Upside down, it goes through all layers to the first item.
		slices.Reverse(layers)
		wantLayers(t, l, nodes(e, impl.OpDual), layers...)
		wantChain(t, l, nodes(e, impl.OpDual), slices.Concat(layers...)...)
	}
}

func TestChainThroughAllLayersOfManyItems(t *testing.T) {
	var grid []impl.Item
	for i := range 16 {
		grid = append(grid, item(i, i/4, i%4, 0))
	}
	low, then := rivalOrder(), towerOrder()
	wantLayers(t, grid, low, []int{0}, []int{1, 4}, []int{2, 5, 8}, []int{3, 6, 9, 12}, []int{7, 10, 13}, []int{11, 14}, []int{15})
	wantChain(t, grid, low, 0, 1, 2, 3, 7, 11, 15)
	wantChain(t, grid, low, 0, 1, 2, 6, 10, 14)
	wantChain(t, grid, nodes(low, impl.OpDual), 15, 11, 7, 3, 2, 1, 0)
	wantChain(t, grid, then, 0, 1, 2, 3, 4, 5, 6, 7, 8, 9, 10, 11, 12, 13, 14, 15)
	// In layers of two equal items, only the last one can be a second one.
	pairsOfItems := numbered(0, 0, 1, 1, 2, 2, 3, 3, 4, 4, 5, 5, 6, 6, 7, 7)
	wantChain(t, pairsOfItems, low, 1, 3, 5, 7, 9, 11, 13, 15)
	wantChain(t, pairsOfItems, low, 1, 3, 5, 7, 9, 11, 13, 16)
	wantChain(t, pairsOfItems, nodes(low, impl.OpDual), 15, 13, 11, 9, 7, 5, 3, 2)
}

func TestSomeChainGoesThroughAllLayers(t *testing.T) {
	source := rand.New(rand.NewSource(101))
	for _, e := range someExpressions(1) {
		l := randomItems(source, 1+source.Intn(impl.MaxItems), 10)
		layers := impl.LayersOf(l, e)
		for _, id := range layers[len(layers)-1] {
			chain := impl.ChainTo(l, e, id)
			if len(chain) != len(layers) || chain[len(chain)-1] != id {
				t.Errorf("the chain to %d of %v by %s is %v, the layers are %v", id, l, formatOfNodes(e), chain, layers)
				continue
			}
			for at, layer := range layers {
				if !slices.Contains(layer, chain[at]) {
					t.Errorf("%d of the chain %v is not in the layer %v", chain[at], chain, layer)
				}
				if at > 0 && !slices.Contains(impl.DominatorsOf(l, e, chain[at]), chain[at-1]) {
					t.Errorf("%d of the chain %v is not better than the next one by %s", chain[at-1], chain, formatOfNodes(e))
				}
			}
		}
	}
}

// Agreement with the order.

func TestLayersAgreeWithRelations(t *testing.T) {
	source := rand.New(rand.NewSource(102))
	for _, e := range someExpressions(2) {
		wantLayered(t, randomItems(source, source.Intn(impl.MaxItems+1), 2+source.Intn(9)), e)
	}
}

func TestLayersAgreeWithRelationsForAllWishes(t *testing.T) {
	source := rand.New(rand.NewSource(103))
	for field := range impl.FieldCount {
		for _, w := range fewWishes(field) {
			wantLayered(t, randomItems(source, impl.MaxItems, 10), nodes(w))
			wantLayered(t, randomItems(source, impl.MaxItems, 10), nodes(w, impl.OpDual))
		}
	}
}

func TestLayersOfAllSmallOrders(t *testing.T) {
	for i, l := range listsOfPairs(4, 3) {
		if factsOf(l).valid {
			wantLayered(t, numbered([][]int{{0, 1, 2, 3}, {3, 2, 1, 0}, {1, 3, 0, 2, 1}}[i%3]...), nodes(orderWish(0, l)))
		}
	}
}

func TestLayersOfMixedOrders(t *testing.T) {
	source := rand.New(rand.NewSource(104))
	for _, l := range mixedLists() {
		if factsOf(l).valid {
			wantLayered(t, numbered(append(source.Perm(10), source.Perm(10)[:source.Intn(7)]...)...), nodes(orderWish(0, l)))
		}
	}
}

func TestLayersAgreeWithEachOther(t *testing.T) {
	source := rand.New(rand.NewSource(105))
	for _, e := range someExpressions(1) {
		l := randomItems(source, 1+source.Intn(impl.MaxItems), 10)
		layers, best := impl.LayersOf(l, e), impl.BestItems(l, e)
		all := slices.Sorted(slices.Values(slices.Concat(layers...)))
		progressive := impl.ProgressiveBest(l, e)
		wantIds(t, "LayersOf", l, e, all, impl.IdsOf(l))
		wantIds(t, "the first layer", l, e, layers[0], best)
		wantBand(t, l, e, 1, best...)
		wantBand(t, l, e, len(l), impl.IdsOf(l)...)
		for i := range progressive[1:] {
			first, second := len(impl.DominatedBy(l, e, progressive[i])), len(impl.DominatedBy(l, e, progressive[i+1]))
			if first < second || first == second && progressive[i] > progressive[i+1] {
				t.Errorf("ProgressiveBest of %v by %s = %v", l, formatOfNodes(e), progressive)
			}
		}
		slices.Sort(progressive)
		wantIds(t, "ProgressiveBest in order", l, e, progressive, best)
		left := l
		for _, layer := range layers {
			wantBest(t, left, e, layer...)
			left = slices.DeleteFunc(slices.Clone(left), func(x impl.Item) bool { return slices.Contains(layer, x.Id) })
		}
	}
}

// Few items, and items that are equal.

func TestLayersOfFewItems(t *testing.T) {
	for _, e := range someExpressions(1) {
		for _, none := range [][]impl.Item{nil, {}} {
			wantNotLayered(t, none, e)
		}
		one := []impl.Item{item(7, 3, 0, 9)}
		wantLayers(t, one, e, []int{7})
		wantLayer(t, one, e, 7, 0)
		wantBand(t, one, e, 0)
		wantBand(t, one, e, 1, 7)
		wantProgressive(t, one, e, 7)
		wantChain(t, one, e, 7)
		wantNoLayer(t, one, e, 0)
	}
}

func TestLayersOfItemsWithTheSameValues(t *testing.T) {
	for _, e := range someExpressions(1) {
		for count := 1; count <= impl.MaxItems; count += 5 {
			l := twins(count, 3, 0, 9)
			wantLayers(t, l, e, impl.IdsOf(l))
			wantProgressive(t, l, e, impl.IdsOf(l)...)
			wantBand(t, l, e, 0)
			wantBand(t, l, e, 1, impl.IdsOf(l)...)
			for _, x := range l {
				wantLayer(t, l, e, x.Id, 0)
				wantChain(t, l, e, x.Id)
			}
		}
	}
}

func TestLayersOfItemsThatAreEqualByTheExpression(t *testing.T) {
	l := []impl.Item{item(0, 6, 0, 0), item(10, 5, 9, 9), item(11, 2, 1, 0), item(40, 3, 2, 0), item(41, 4, 0, 7), item(99, 4, 3, 0)}
	e := reading(t, "near f0 4")
	wantLayers(t, l, e, []int{41, 99}, []int{10, 40}, []int{0, 11})
	wantProgressive(t, l, e, 41, 99)
	wantChain(t, l, e, 41, 10, 11)
	wantBand(t, l, e, 2, 41, 99)
	wantBand(t, l, e, 3, 10, 40, 41, 99)
	wantBand(t, l, e, 4, 10, 40, 41, 99)
	wantBand(t, l, e, 5, 0, 10, 11, 40, 41, 99)
}

// Values at and beyond each limit.

func TestNumberOfItemsInLayers(t *testing.T) {
	for count := range impl.MaxItems + 1 {
		wantLayered(t, tower(count), towerOrder())
		wantLayered(t, rivals(min(count, 10)), rivalOrder())
		wantLayered(t, twins(count, 1, 2, 3), rivalOrder())
	}
	for _, count := range []int{17, 18, 32, 33, 256, 272, 5000} {
		wantNotLayered(t, tower(count), towerOrder())
		many := slices.Repeat(twins(1, 1, 2, 3), count)
		for i := range many {
			many[i].Id = i
		}
		wantNotLayered(t, many, towerOrder())
	}
	// Ids in the range, so that only the number of items is beyond the limit.
	row := numbered(slices.Repeat([]int{3, 1, 2}, 6)...)
	wantNotLayered(t, row, towerOrder())
	wantNotLayered(t, row[:17], towerOrder())
	wantLayered(t, row[:16], towerOrder())
	wantLayered(t, row[1:17], towerOrder())
}

func TestSizesOfBands(t *testing.T) {
	l, e := tower(impl.MaxItems), towerOrder()
	for _, k := range sizesOfBands() {
		wantBand(t, l, e, k, impl.IdsOf(l[:min(max(k, 0), impl.MaxItems)])...)
		wantBand(t, nil, e, k)
		if k < 1 {
			wantBand(t, rivals(10), rivalOrder(), k)
		} else {
			wantBand(t, rivals(10), rivalOrder(), k, impl.IdsOf(rivals(10))...)
		}
	}
}

func TestIdsAndValuesAtTheLimitsOfLayers(t *testing.T) {
	for field := range impl.FieldCount {
		x, y := item(0, 5, 5, 5), item(99, 5, 5, 5)
		x.Values[field], y.Values[field] = 9, 0
		l := []impl.Item{x, y}
		wantLayers(t, l, nodes(lowWish(field)), []int{99}, []int{0})
		wantChain(t, l, nodes(lowWish(field)), 99, 0)
		wantLayers(t, l, nodes(highWish(field)), []int{0}, []int{99})
		wantChain(t, l, nodes(highWish(field)), 0, 99)
		wantLayer(t, l, nodes(highWish(field)), 99, 1)
		for _, v := range farValues {
			y.Values[field] = v
			wantNotLayered(t, l, nodes(lowWish((field+1)%3)))
		}
	}
	for _, id := range []int{-1, -2, math.MinInt} {
		wantNotLayered(t, []impl.Item{item(id, 1, 0, 0), item(5, 2, 0, 0)}, towerOrder())
	}
	for _, id := range []int{100, 101, 1 << 8, 1 << 32, math.MaxInt} {
		wantNotLayered(t, []impl.Item{item(5, 2, 0, 0), item(id, 1, 0, 0)}, towerOrder())
	}
}

func TestExpressionsAtAndBeyondTheLimitOfLayers(t *testing.T) {
	l, duals := fiveItems(), slices.Repeat(nodes(impl.OpDual), 10)
	wantLayers(t, l, nodes(lowWish(0), duals[:8]), []int{1}, []int{2, 5}, []int{4}, []int{3})
	wantLayers(t, l, nodes(lowWish(0), duals[:7]), []int{3}, []int{4}, []int{2, 5}, []int{1})
	wantLayered(t, l, nodes(lowWish(0), duals[:8]))
	wantNotLayered(t, l, nodes(lowWish(0), duals[:9]))
	wantNotLayered(t, l, nodes(lowWish(0), duals))
	four := nodes(lowWish(0), slices.Repeat(nodes(lowWish(1), impl.OpPrior), 4))
	wantLayered(t, l, four)
	wantNotLayered(t, l, nodes(four, impl.OpDual))
	wantNotLayered(t, l, nodes(four, lowWish(2), impl.OpPareto))
}

func TestLayersOfIdsThatNoItemHas(t *testing.T) {
	for _, c := range []struct {
		l []impl.Item
		e []impl.Node
	}{{fiveItems(), rivalOrder()}, {tower(16), towerOrder()}, {twins(16, 0, 0, 0), towerOrder()}, {[]impl.Item{item(0, 0, 0, 0), item(99, 1, 0, 0)}, towerOrder()}, {nil, towerOrder()}} {
		for _, id := range askedIds() {
			if !slices.Contains(impl.IdsOf(c.l), id) {
				wantNoLayer(t, c.l, c.e, id)
			}
		}
	}
}

// Invalid arguments.

func TestLayersOfInvalidItems(t *testing.T) {
	for _, x := range invalidItems() {
		wantNotLayered(t, []impl.Item{x}, rivalOrder())
		for at := range 6 {
			wantNotLayered(t, slices.Insert(validItems(5), at, x), rivalOrder())
		}
	}
	for at := range impl.MaxItems - 1 {
		l := tower(impl.MaxItems)
		l[at], l[at+1] = l[at+1], l[at]
		wantNotLayered(t, l, towerOrder())
		l = tower(impl.MaxItems)
		l[at+1].Id = l[at].Id
		wantNotLayered(t, l, towerOrder())
	}
	wantNotLayered(t, []impl.Item{item(3, 1, 2, 3), item(3, 1, 2, 3)}, rivalOrder())
}

func TestLayersByInvalidExpressions(t *testing.T) {
	for _, e := range invalidExpressions() {
		wantNotLayered(t, fiveItems(), e)
		wantNotLayered(t, []impl.Item{item(1, 2, 3, 4)}, e)
		wantNotLayered(t, nil, e)
		wantNotLayered(t, []impl.Item{item(-1, 2, 3, 4)}, e)
	}
}

func TestLayersTakeEmptyListsForNil(t *testing.T) {
	e := []impl.Node{
		{Wish: impl.Wish{List: []int{}, Pairs: []impl.Pair{}}},
		{Wish: impl.Wish{Field: 1, List: []int{7}[:0]}},
		{Op: impl.OpPareto, Wish: impl.Wish{List: []int{}, Pairs: pairs(0, 1)[:0]}},
	}
	wantLayered(t, fiveItems(), e)
	wantLayers(t, fiveItems(), e, []int{1, 2, 3}, []int{4, 5})
}

// Memory and state.

// wantOwnLists changes each list, also behind its end, and checks that no other one changes with it.
func wantOwnLists(t *testing.T, lists [][]int) {
	t.Helper()
	var want [][]int
	for _, list := range lists {
		want = append(want, slices.Clone(list))
	}
	for i, list := range lists {
		whole := list[:cap(list)]
		for at := range whole {
			whole[at] = 1000 + i
		}
		want[i] = slices.Clone(list)
		if !slices.EqualFunc(lists, want, slices.Equal) {
			t.Fatalf("the change of one list left %v, not %v", lists, want)
		}
	}
}

func TestLayersShareNoMemory(t *testing.T) {
	for _, c := range []struct {
		l []impl.Item
		e []impl.Node
	}{
		{fiveItems(), nodes(amongWish(0, 2, 3), orderWish(1, pairs(3, 5, 5, 4)), impl.OpPrior)},
		{tower(16), towerOrder()},
		{numbered(0, 0, 1, 1, 2, 2, 3, 3, 4, 4, 5, 5, 6, 6, 7, 7), rivalOrder()},
	} {
		wantItems, wantNodes := copyOfItems(c.l), copyOfNodes(c.e)
		for range 2 {
			wantOwnLists(t, impl.LayersOf(c.l, c.e))
			lists := append(impl.LayersOf(c.l, c.e), impl.ProgressiveBest(c.l, c.e), impl.SkybandOf(c.l, c.e, 2), impl.SkybandOf(c.l, c.e, 17))
			for _, x := range c.l {
				lists = append(lists, impl.ChainTo(c.l, c.e, x.Id))
			}
			wantOwnLists(t, lists)
			if !reflect.DeepEqual(c.l, wantItems) || !reflect.DeepEqual(c.e, wantNodes) {
				t.Fatalf("with the results, the arguments became %v and %v", c.l, c.e)
			}
			wantLayered(t, c.l, c.e)
		}
	}
}

func TestLayersDoNotModifyArguments(t *testing.T) {
	items := append(tower(18), item(-4, 1, 2, 3), item(3, 1, 2), item(3, 1, 2, 10))
	row := nodes(amongWish(0, 1, 3), amongWish(0, 1, 3), impl.OpPareto, impl.OpDual, orderWish(1, pairs(2, 1, 1, 0)), impl.OpMeet, nearWish(0, 12), -7)
	wantItems, wantRow := copyOfItems(items), copyOfNodes(row)
	for from := range len(items) + 1 {
		for to := from; to <= len(items); to++ {
			for end := range len(row) + 1 {
				l, e := items[from:to], row[:end]
				impl.LayersOf(l, e)
				impl.ProgressiveBest(l, e)
				impl.SkybandOf(l, e, to-from)
				for _, id := range []int{-4, 3, 4, 39} {
					impl.LayerOf(l, e, id)
					impl.ChainTo(l, e, id)
				}
			}
		}
	}
	if !reflect.DeepEqual(items, wantItems) || !reflect.DeepEqual(row, wantRow) {
		t.Errorf("the arguments became %v and %v", items, row)
	}
}

func TestLayersKeepNoState(t *testing.T) {
	l, e := []impl.Item{item(1, 1, 0, 0), item(2, 2, 0, 0), item(3, 1, 0, 0)}, nodes(lowWish(0))
	for i := range 6 {
		// The same memory holds other items and another expression in every second and third round.
		l[1].Values[0] = 2 * (i % 2)
		e[0].Wish.Kind = []int{impl.WishLow, impl.WishHigh, impl.WishLow}[i%3]
		if (l[1].Values[0] == 2) == (e[0].Wish.Kind == impl.WishLow) {
			wantLayers(t, l, e, []int{1, 3}, []int{2})
			wantLayer(t, l, e, 2, 1)
			wantBand(t, l, e, 2, 1, 3)
			wantProgressive(t, l, e, 1, 3)
			wantChain(t, l, e, 1, 2)
		} else {
			wantLayers(t, l, e, []int{2}, []int{1, 3})
			wantLayer(t, l, e, 2, 0)
			wantBand(t, l, e, 2, 1, 2, 3)
			wantProgressive(t, l, e, 2)
			wantChain(t, l, e, 2, 3)
		}
	}
}

func TestLayersOfManyCallsAtOnce(t *testing.T) {
	// The arguments change when all calls have returned, and only then.
	l, e := tower(impl.MaxItems), towerOrder()
	for round := range 20 {
		l[round%impl.MaxItems].Values[0] = round % 2 * 9
		want := layeringOf(l, e)
		same := make(chan bool)
		for i := range l {
			go func() {
				isSame := slices.EqualFunc(impl.LayersOf(l, e), want.layers, slices.Equal)
				same <- isSame && impl.LayerOf(l, e, l[i].Id) == want.depths[i] && slices.Equal(impl.ChainTo(l, e, l[i].Id), want.chains[i])
			}()
		}
		for range l {
			if !<-same {
				t.Errorf("the layers of %v differ from call to call", l)
			}
		}
	}
}

func TestLayersLeaveNothingRunning(t *testing.T) {
	before, l := runtime.NumGoroutine(), tower(impl.MaxItems)
	for range 200 {
		impl.LayersOf(l, towerOrder())
		for _, id := range []int{4, 9, 79, 5} {
			impl.LayerOf(l, towerOrder(), id)
			impl.ChainTo(l, towerOrder(), id)
		}
		impl.LayersOf(l[:1], nil)
	}
	wantNoMoreRunning(t, before)
}
