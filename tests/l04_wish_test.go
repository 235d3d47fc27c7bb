package tests

// Promise 3, as far as wishes go: what a wish compares as better is a strict partial order, of values and of items.
// Promise 2, as far as wishes go: they can be parsed from their string format, and no other strings are accepted.

import (
	"fmt"
	"math"
	"math/bits"
	"reflect"
	"regexp"
	"slices"
	"strings"
	"testing"

	"loop.example/g01987/impl"
)

// farValues are no values, just beyond the limits and far from them.
var farValues = []int{-1, -2, 10, 11, 100, math.MaxInt, math.MinInt, 1 << 32, 1 << 8}

func lowWish(field int) impl.Wish {
	return impl.Wish{Kind: impl.WishLow, Field: field}
}

func highWish(field int) impl.Wish {
	return impl.Wish{Kind: impl.WishHigh, Field: field}
}

func nearWish(field, value int) impl.Wish {
	return impl.Wish{Kind: impl.WishNear, Field: field, Value: value}
}

func amongWish(field int, list ...int) impl.Wish {
	return impl.Wish{Kind: impl.WishAmong, Field: field, List: list}
}

func orderWish(field int, l []impl.Pair) impl.Wish {
	return impl.Wish{Kind: impl.WishOrder, Field: field, Pairs: l}
}

// oneOfEachKind returns wishes for a field, in the order of their kinds.
func oneOfEachKind(field int) []impl.Wish {
	return []impl.Wish{lowWish(field), highWish(field), nearWish(field, 4), amongWish(field, 1, 3), orderWish(field, pairs(0, 1, 1, 2))}
}

// listOfBits returns the values whose bits are set, in ascending order.
func listOfBits(set int) []int {
	var l []int
	for v := range valueCount {
		if set>>v&1 == 1 {
			l = append(l, v)
		}
	}
	return l
}

// wishesWithRanks returns all valid wishes for a field that are no orders.
func wishesWithRanks(field int) []impl.Wish {
	all := []impl.Wish{lowWish(field), highWish(field)}
	for v := range valueCount {
		all = append(all, nearWish(field, v))
	}
	for set := 1; set < powerOf(2, valueCount); set++ {
		all = append(all, amongWish(field, listOfBits(set)...))
	}
	return all
}

// validWishes returns all valid wishes with ranks, and orders of every kind.
func validWishes() []impl.Wish {
	var all []impl.Wish
	for field := range impl.FieldCount {
		all = append(all, wishesWithRanks(field)...)
	}
	for i, l := range someLists() {
		if factsOf(l).valid {
			all = append(all, orderWish(i%impl.FieldCount, l))
		}
	}
	return all
}

// fewWishes returns valid wishes of each kind for a field, for what takes long.
func fewWishes(field int) []impl.Wish {
	all := oneOfEachKind(field)
	for v := range valueCount {
		all = append(all, nearWish(field, v), amongWish(field, v))
	}
	for _, l := range [][]impl.Pair{nil, chain(8), pairs(9, 0), pairs(5, 0, 5, 9, 3, 0, 0, 7), pairs(0, 1, 0, 1)} {
		all = append(all, orderWish(field, l))
	}
	return append(all, amongWish(field, 0, 1, 2, 3, 4, 5, 6, 7, 8, 9), amongWish(field, 0, 4, 9))
}

// wishesWithForeignParts returns wishes with a part that belongs to another kind.
func wishesWithForeignParts() []impl.Wish {
	var all []impl.Wish
	add := func(w impl.Wish, value int, list []int, l []impl.Pair) {
		w.Value, w.List, w.Pairs = value, list, l
		all = append(all, w)
	}
	for field := range impl.FieldCount {
		for _, w := range oneOfEachKind(field) {
			if w.Kind != impl.WishNear {
				for _, v := range append(farValues, 1, 2, 3, 9) {
					add(w, v, w.List, w.Pairs)
				}
			}
			if w.Kind != impl.WishAmong {
				add(w, w.Value, []int{0}, w.Pairs)
				add(w, w.Value, []int{1, 3}, w.Pairs)
				add(w, w.Value, []int{20, -1}, w.Pairs)
			}
			if w.Kind != impl.WishOrder {
				add(w, w.Value, w.List, pairs(0, 1))
				add(w, w.Value, w.List, pairs(0, 0))
				add(w, w.Value, w.List, chain(9))
			}
		}
	}
	return all
}

// invalidWishes returns wishes that break one rule each, just beyond the limits and far from them.
func invalidWishes() []impl.Wish {
	all := wishesWithForeignParts()
	for _, n := range []int{-1, -2, 3, 4, 5, 9, 100, math.MaxInt, math.MinInt, 1 << 32, 1 << 8} {
		for _, w := range oneOfEachKind(0) {
			w.Field = n
			all = append(all, w)
		}
		if n < impl.WishLow || n > impl.WishOrder {
			for _, w := range oneOfEachKind(1) {
				w.Kind = n
				all = append(all, w)
			}
		}
	}
	for _, v := range farValues {
		all = append(all, nearWish(1, v), amongWish(1, v), amongWish(1, v, 3), amongWish(1, 3, v), amongWish(1, 3, v, 5))
	}
	for _, list := range [][]int{nil, {}, {0, 0}, {3, 3}, {9, 9}, {1, 0}, {9, 0}, {1, 3, 2}, {1, 2, 2}, {2, 1, 3}, {0, 1, 2, 3, 4, 5, 6, 7, 8, 9, 10}, {0, 1, 2, 3, 4, 5, 6, 7, 8, 9, 9}, {-1, 0, 1}} {
		all = append(all, amongWish(1, list...))
	}
	for _, l := range invalidPairs() {
		all = append(all, orderWish(2, l))
	}
	return all
}

// ranksOf returns the rank of each value by a valid wish, counted step by step from the best ones, or none for an order.
func ranksOf(w impl.Wish) []int {
	ranks := make([]int, valueCount)
	switch w.Kind {
	case impl.WishLow:
		for v := range valueCount {
			ranks[v] = v
		}
	case impl.WishHigh:
		for v := range valueCount {
			ranks[impl.MaxValue-v] = v
		}
	case impl.WishNear:
		for steps := range valueCount {
			for v := range valueCount {
				if v+steps == w.Value || v-steps == w.Value {
					ranks[v] = steps
				}
			}
		}
	case impl.WishAmong:
		for v := range valueCount {
			if !slices.Contains(w.List, v) {
				ranks[v] = 1
			}
		}
	default:
		return nil
	}
	return ranks
}

// codesOf returns how a valid wish compares all values, found without the program.
func codesOf(w impl.Wish) [valueCount][valueCount]int {
	var better [valueCount][valueCount]bool
	ranks := ranksOf(w)
	if ranks == nil {
		better = factsOf(w.Pairs).above
	}
	for a, rankA := range ranks {
		for b, rankB := range ranks {
			better[a][b] = rankA < rankB
		}
	}
	var codes [valueCount][valueCount]int
	for a := range valueCount {
		for b := range valueCount {
			switch {
			case better[a][b]:
				codes[a][b] = impl.Better
			case better[b][a]:
				codes[a][b] = impl.Worse
			case a == b || ranks != nil:
				codes[a][b] = impl.Equal
			default:
				codes[a][b] = impl.Unrelated
			}
		}
	}
	return codes
}

// formatOfWish writes a wish of one of the kinds without the program, valid or not.
func formatOfWish(w impl.Wish) string {
	var values []string
	for _, v := range w.List {
		values = append(values, fmt.Sprint(v))
	}
	switch w.Kind {
	case impl.WishLow:
		return fmt.Sprintf("low f%d", w.Field)
	case impl.WishHigh:
		return fmt.Sprintf("high f%d", w.Field)
	case impl.WishNear:
		return fmt.Sprintf("near f%d %d", w.Field, w.Value)
	case impl.WishAmong:
		return fmt.Sprintf("among f%d %s", w.Field, strings.Join(values, ","))
	}
	return fmt.Sprintf("order f%d %s", w.Field, formatOf(w.Pairs))
}

var (
	plainFormat = regexp.MustCompile(`^(low|high) f([0-2])$`)
	nearFormat  = regexp.MustCompile(`^near f([0-2]) ([0-9])$`)
	amongFormat = regexp.MustCompile(`^among f([0-2]) ([0-9](,[0-9])*)$`)
	orderFormat = regexp.MustCompile(`^order f([0-2]) (none|[0-9>,]+)$`)
)

// readWish reads a wish without the program.
func readWish(s string) (impl.Wish, bool) {
	if m := plainFormat.FindStringSubmatch(s); m != nil {
		kind := impl.WishLow
		if m[1] == "high" {
			kind = impl.WishHigh
		}
		return impl.Wish{Kind: kind, Field: int(m[2][0] - '0')}, true
	}
	if m := nearFormat.FindStringSubmatch(s); m != nil {
		return nearWish(int(m[1][0]-'0'), int(m[2][0]-'0')), true
	}
	if m := amongFormat.FindStringSubmatch(s); m != nil {
		var list []int
		set := 0
		for i := 0; i < len(m[2]); i += 2 {
			list = append(list, int(m[2][i]-'0'))
			set |= 1 << list[len(list)-1]
		}
		if !slices.IsSorted(list) || bits.OnesCount(uint(set)) != len(list) {
			return impl.Wish{}, false
		}
		return amongWish(int(m[1][0]-'0'), list...), true
	}
	if m := orderFormat.FindStringSubmatch(s); m != nil {
		if l, ok := readPairs(m[2]); ok {
			return orderWish(int(m[1][0]-'0'), l), true
		}
	}
	return impl.Wish{}, false
}

func sameWish(a, b impl.Wish) bool {
	return a.Kind == b.Kind && a.Field == b.Field && a.Value == b.Value && slices.Equal(a.List, b.List) && slices.Equal(a.Pairs, b.Pairs)
}

func wantWish(t *testing.T, s string, want impl.Wish, ok bool) {
	t.Helper()
	if got, gotOk := impl.ParseWish(s); !sameWish(got, want) || gotOk != ok {
		t.Errorf("ParseWish(%q) = %v, %t, want %v, %t", s, got, gotOk, want, ok)
	}
}

// wantWishAsRead checks ParseWish for a string that may be anything.
func wantWishAsRead(t *testing.T, s string) {
	t.Helper()
	want, ok := readWish(s)
	wantWish(t, s, want, ok)
}

func wantCode(t *testing.T, w impl.Wish, a, b, want int) {
	t.Helper()
	if got := impl.CompareValues(w, a, b); got != want {
		t.Errorf("CompareValues(%v, %d, %d) = %d, want %d", w, a, b, got, want)
	}
}

func wantRank(t *testing.T, w impl.Wish, v, want int, ok bool) {
	t.Helper()
	if got, gotOk := impl.RankOfValue(w, v); got != want || gotOk != ok {
		t.Errorf("RankOfValue(%v, %d) = %d, %t, want %d, %t", w, v, got, gotOk, want, ok)
	}
}

func wantItemCode(t *testing.T, w impl.Wish, x, y impl.Item, want int) {
	t.Helper()
	if got := impl.CompareItems(w, x, y); got != want {
		t.Errorf("CompareItems(%v, %v, %v) = %d, want %d", w, x, y, got, want)
	}
}

func TestWishConstants(t *testing.T) {
	kinds := []int{impl.WishLow, impl.WishHigh, impl.WishNear, impl.WishAmong, impl.WishOrder}
	codes := []int{impl.Worse, impl.Equal, impl.Better, impl.Unrelated}
	if !slices.Equal(kinds, []int{0, 1, 2, 3, 4}) || !slices.Equal(codes, []int{-1, 0, 1, 2}) {
		t.Errorf("kinds %v, codes %v", kinds, codes)
	}
}

func TestIsWish(t *testing.T) {
	for _, w := range validWishes() {
		if !impl.IsWish(w) {
			t.Errorf("IsWish(%v) = false", w)
		}
	}
	for _, w := range invalidWishes() {
		if impl.IsWish(w) {
			t.Errorf("IsWish(%v) = true", w)
		}
	}
	if !impl.IsWish(impl.Wish{}) {
		t.Error("the zero value is the wish that field 0 is low")
	}
}

func TestEmptyListsAreLikeNil(t *testing.T) {
	for field := range impl.FieldCount {
		for _, w := range oneOfEachKind(field) {
			full := w
			if len(full.List) == 0 {
				full.List = []int{}
			}
			if len(full.Pairs) == 0 {
				full.Pairs = []impl.Pair{}
			}
			if !impl.IsWish(full) || impl.FormatWish(full) != impl.FormatWish(w) {
				t.Errorf("%#v and %#v differ", w, full)
			}
			wantCode(t, full, 0, 1, codesOf(w)[0][1])
		}
		if !impl.IsWish(orderWish(field, []impl.Pair{})) || impl.IsWish(impl.Wish{Kind: impl.WishAmong, Field: field, List: []int{}}) {
			t.Error("an order may be empty, a list may not")
		}
	}
}

func TestIsWishLooksAtTheLengthOnly(t *testing.T) {
	list, l := []int{1, 3, 2, 20}, append(chain(8), pairs(9, 9)...)
	if !impl.IsWish(amongWish(0, list[:2]...)) || impl.IsWish(amongWish(0, list[:0]...)) || !impl.IsWish(orderWish(0, l[:8])) {
		t.Error("what is behind the end counts")
	}
	low := lowWish(0)
	low.List, low.Pairs = list[:0], l[:0]
	if !impl.IsWish(low) {
		t.Error("room behind an empty list counts")
	}
}

func TestCompareValues(t *testing.T) {
	for _, c := range []struct {
		wish impl.Wish
		a, b int
		want int
	}{
		{lowWish(0), 0, 1, impl.Better}, {lowWish(0), 9, 8, impl.Worse}, {lowWish(2), 5, 5, impl.Equal}, {lowWish(1), 0, 9, impl.Better},
		{highWish(0), 0, 1, impl.Worse}, {highWish(0), 9, 8, impl.Better}, {highWish(2), 5, 5, impl.Equal}, {highWish(1), 0, 9, impl.Worse},
		{nearWish(1, 4), 4, 5, impl.Better}, {nearWish(1, 4), 3, 6, impl.Better}, {nearWish(1, 4), 9, 0, impl.Worse}, {nearWish(1, 4), 4, 4, impl.Equal},
		{nearWish(1, 0), 0, 1, impl.Better}, {nearWish(1, 9), 0, 1, impl.Worse},
		{amongWish(0, 1, 3), 1, 3, impl.Equal}, {amongWish(0, 1, 3), 3, 2, impl.Better}, {amongWish(0, 1, 3), 0, 1, impl.Worse}, {amongWish(0, 1, 3), 0, 9, impl.Equal},
		{orderWish(2, pairs(0, 1, 1, 2, 3, 2)), 0, 2, impl.Better}, {orderWish(2, pairs(0, 1, 1, 2, 3, 2)), 2, 3, impl.Worse},
		{orderWish(2, pairs(0, 1, 1, 2, 3, 2)), 0, 3, impl.Unrelated}, {orderWish(2, pairs(0, 1, 1, 2, 3, 2)), 7, 8, impl.Unrelated},
		{orderWish(2, pairs(0, 1, 1, 2, 3, 2)), 7, 7, impl.Equal}, {orderWish(2, pairs(0, 1, 1, 2, 3, 2)), 2, 2, impl.Equal},
		{orderWish(0, nil), 0, 1, impl.Unrelated}, {orderWish(0, nil), 9, 9, impl.Equal},
		{orderWish(0, chain(8)), 0, 8, impl.Better}, {orderWish(0, chain(8)), 8, 0, impl.Worse}, {orderWish(0, chain(8)), 0, 9, impl.Unrelated},
	} {
		wantCode(t, c.wish, c.a, c.b, c.want)
	}
}

func TestSameDistanceOnBothSides(t *testing.T) {
	for field := range impl.FieldCount {
		for middle := range valueCount {
			w := nearWish(field, middle)
			for steps := 1; steps <= impl.MaxValue; steps++ {
				below, above := middle-steps, middle+steps
				if below < 0 || above > impl.MaxValue {
					// Only one side has a value at this distance.
					wantCode(t, w, below, above, impl.Unrelated)
					wantCode(t, w, above, below, impl.Unrelated)
					continue
				}
				wantRank(t, w, below, steps, true)
				wantRank(t, w, above, steps, true)
				wantCode(t, w, below, above, impl.Equal)
				wantCode(t, w, above, below, impl.Equal)
				wantCode(t, w, middle, below, impl.Better)
				wantCode(t, w, above, middle, impl.Worse)
				x, y := item(1, 7, 7, 7), item(2, 0, 0, 0)
				x.Values[field], y.Values[field] = below, above
				wantItemCode(t, w, x, y, impl.Equal)
				wantItemCode(t, w, y, x, impl.Equal)
				for _, v := range []int{below - 1, above + 1} {
					if v >= 0 && v <= impl.MaxValue {
						wantCode(t, w, below, v, impl.Better)
						wantCode(t, w, v, above, impl.Worse)
					}
				}
				for _, v := range []int{below + 1, above - 1} {
					wantCode(t, w, v, below, impl.Better)
					wantCode(t, w, above, v, impl.Worse)
				}
			}
		}
	}
}

func TestWishesCompareAllValues(t *testing.T) {
	for _, w := range validWishes() {
		codes, ranks := codesOf(w), ranksOf(w)
		for a := range valueCount {
			for b := range valueCount {
				wantCode(t, w, a, b, codes[a][b])
			}
			if ranks != nil {
				wantRank(t, w, a, ranks[a], true)
			} else {
				wantRank(t, w, a, 0, false)
			}
		}
	}
}

func TestWishesCompareNothingElse(t *testing.T) {
	for field := range impl.FieldCount {
		for _, w := range fewWishes(field) {
			for _, far := range farValues {
				wantRank(t, w, far, 0, false)
				wantCode(t, w, far, far, impl.Unrelated)
				for v := range valueCount {
					wantCode(t, w, far, v, impl.Unrelated)
					wantCode(t, w, v, far, impl.Unrelated)
				}
			}
		}
	}
}

func TestInvalidWishesHaveFixedResults(t *testing.T) {
	for _, w := range invalidWishes() {
		for a := range valueCount {
			wantRank(t, w, a, 0, false)
			for b := range valueCount {
				wantCode(t, w, a, b, impl.Unrelated)
			}
		}
		for _, far := range farValues {
			wantRank(t, w, far, 0, false)
			wantCode(t, w, far, 1, impl.Unrelated)
			wantCode(t, w, 1, far, impl.Unrelated)
			wantCode(t, w, far, far, impl.Unrelated)
		}
		wantItemCode(t, w, item(1, 2, 3, 4), item(2, 4, 3, 2), impl.Unrelated)
		wantItemCode(t, w, item(1, 2, 3, 4), item(1, 2, 3, 4), impl.Unrelated)
		wantItemCode(t, w, impl.Item{}, impl.Item{}, impl.Unrelated)
		if got := impl.FormatWish(w); got != "" {
			t.Errorf("FormatWish(%v) = %q", w, got)
		}
	}
}

// wantStrictPartialOrder checks the codes of all pairs, which came from a wish or an expression.
func wantStrictPartialOrder(t *testing.T, from any, codes [][]int) {
	t.Helper()
	for a := range codes {
		if codes[a][a] != impl.Equal {
			t.Errorf("%v: %d compares with itself as %d", from, a, codes[a][a])
		}
		for b := range codes {
			back := codes[a][b]
			if back == impl.Better || back == impl.Worse {
				back = -back
			}
			if codes[b][a] != back {
				t.Errorf("%v: %d and %d compare as %d and %d", from, a, b, codes[a][b], codes[b][a])
			}
			for c := range codes {
				if codes[a][b] == impl.Better && codes[b][c] == impl.Better && codes[a][c] != impl.Better {
					t.Errorf("%v: %d is better than %d, and this than %d", from, a, b, c)
				}
				if codes[a][b] == impl.Equal && codes[a][c] != codes[b][c] {
					t.Errorf("%v: %d and %d are equal, but not for %d", from, a, b, c)
				}
			}
		}
	}
}

// wantOrderOfWish checks also that with ranks nothing is unrelated.
func wantOrderOfWish(t *testing.T, w impl.Wish, codes [][]int) {
	t.Helper()
	wantStrictPartialOrder(t, w, codes)
	if w.Kind != impl.WishOrder && slices.Contains(slices.Concat(codes...), impl.Unrelated) {
		t.Errorf("%v: values are unrelated in spite of their ranks", w)
	}
}

func TestWishesAreStrictPartialOrdersOfValues(t *testing.T) {
	for _, w := range validWishes() {
		codes := make([][]int, valueCount)
		for a := range valueCount {
			for b := range valueCount {
				codes[a] = append(codes[a], impl.CompareValues(w, a, b))
			}
		}
		wantOrderOfWish(t, w, codes)
	}
}

func TestWishesAreStrictPartialOrdersOfItems(t *testing.T) {
	items := append(validItems(impl.MaxItems), item(1, 9, 9, 9), item(0, 0, 0, 0), item(99, 4, 5, 3))
	for field := range impl.FieldCount {
		for _, w := range fewWishes(field) {
			codes := make([][]int, len(items))
			for a, x := range items {
				for _, y := range items {
					codes[a] = append(codes[a], impl.CompareItems(w, x, y))
				}
			}
			wantOrderOfWish(t, w, codes)
		}
	}
}

func TestCompareItemsLooksAtOneField(t *testing.T) {
	for field := range impl.FieldCount {
		for _, w := range fewWishes(field) {
			codes := codesOf(w)
			for a := range valueCount {
				for b := range valueCount {
					for _, rest := range []int{0, 4, 9} {
						x, y := item(0, rest, rest, rest), item(99, 9-rest, 9-rest, 9-rest)
						x.Values[field], y.Values[field] = a, b
						wantItemCode(t, w, x, y, codes[a][b])
						y.Id = 0
						wantItemCode(t, w, x, y, codes[a][b])
						y.Values = slices.Clone(x.Values)
						y.Values[field] = b
						wantItemCode(t, w, x, y, codes[a][b])
					}
				}
			}
		}
	}
}

func TestCompareItemsWithAnInvalidOne(t *testing.T) {
	valid := item(2, 2, 3, 4)
	for field := range impl.FieldCount {
		for _, w := range fewWishes(field) {
			for _, x := range invalidItems() {
				wantItemCode(t, w, x, valid, impl.Unrelated)
				wantItemCode(t, w, valid, x, impl.Unrelated)
				wantItemCode(t, w, x, x, impl.Unrelated)
			}
		}
	}
}

func TestRankOfValue(t *testing.T) {
	for _, c := range []struct {
		wish  impl.Wish
		ranks []int
	}{
		{lowWish(0), []int{0, 1, 2, 3, 4, 5, 6, 7, 8, 9}},
		{highWish(1), []int{9, 8, 7, 6, 5, 4, 3, 2, 1, 0}},
		{nearWish(2, 4), []int{4, 3, 2, 1, 0, 1, 2, 3, 4, 5}},
		{nearWish(0, 0), []int{0, 1, 2, 3, 4, 5, 6, 7, 8, 9}},
		{nearWish(0, 9), []int{9, 8, 7, 6, 5, 4, 3, 2, 1, 0}},
		{amongWish(0, 1, 3), []int{1, 0, 1, 0, 1, 1, 1, 1, 1, 1}},
		{amongWish(0, 0, 9), []int{0, 1, 1, 1, 1, 1, 1, 1, 1, 0}},
		{amongWish(0, 0, 1, 2, 3, 4, 5, 6, 7, 8, 9), make([]int, valueCount)},
	} {
		for v, want := range c.ranks {
			wantRank(t, c.wish, v, want, true)
		}
	}
	for v := range valueCount {
		wantRank(t, orderWish(0, pairs(0, 1)), v, 0, false)
		wantRank(t, orderWish(2, nil), v, 0, false)
	}
}

func TestFormatWish(t *testing.T) {
	for want, w := range map[string]impl.Wish{
		"low f0":                         lowWish(0),
		"high f2":                        highWish(2),
		"near f1 4":                      nearWish(1, 4),
		"near f2 0":                      nearWish(2, 0),
		"among f2 1,3":                   amongWish(2, 1, 3),
		"among f0 9":                     amongWish(0, 9),
		"among f1 0,1,2,3,4,5,6,7,8,9":   amongWish(1, 0, 1, 2, 3, 4, 5, 6, 7, 8, 9),
		"order f0 0>1,1>2":               orderWish(0, pairs(0, 1, 1, 2)),
		"order f1 1>2,0>1":               orderWish(1, pairs(1, 2, 0, 1)),
		"order f2 none":                  orderWish(2, nil),
		"order f2 9>0,9>0":               orderWish(2, pairs(9, 0, 9, 0)),
		"order f0 " + formatOf(chain(8)): orderWish(0, chain(8)),
	} {
		if got := impl.FormatWish(w); got != want {
			t.Errorf("FormatWish(%v) = %q, want %q", w, got, want)
		}
		wantWish(t, want, w, true)
	}
}

func TestWishRoundTrip(t *testing.T) {
	formats := map[string]impl.Wish{}
	for _, w := range validWishes() {
		want := formatOfWish(w)
		if got := impl.FormatWish(w); got != want {
			t.Errorf("FormatWish(%v) = %q, want %q", w, got, want)
		}
		wantWish(t, want, w, true)
		if other, ok := formats[want]; ok && !sameWish(w, other) {
			t.Errorf("%v and %v have the same format", w, other)
		}
		formats[want] = w
	}
}

func TestParseWishRejectsInvalidWishes(t *testing.T) {
	for _, w := range invalidWishes() {
		if slices.Contains([]int{impl.WishLow, impl.WishHigh, impl.WishNear, impl.WishAmong, impl.WishOrder}, w.Kind) {
			wantWishAsRead(t, formatOfWish(w))
		}
	}
}

func TestParseWishOfAllShortStrings(t *testing.T) {
	words := append(wordsOver("lowhigf012 ", 5), wordsOver(allBytes(), 2)...)
	words = append(words, wordsOver("low f0", 6)...)
	for _, s := range words {
		wantWishAsRead(t, s)
	}
	for _, word := range []string{"low", "high", "near", "among", "order"} {
		for _, tail := range append(wordsOver("f012 ", 6), wordsOver(allBytes(), 2)...) {
			wantWishAsRead(t, word+tail)
			wantWishAsRead(t, word+" f"+tail)
		}
		for _, tail := range append(wordsOver("0139,>- ", 5), wordsOver("none ,", 5)...) {
			wantWishAsRead(t, word+" f1"+tail)
			wantWishAsRead(t, word+" f2 "+tail)
		}
	}
}

func TestParseWishOfChangedFormats(t *testing.T) {
	for _, s := range []string{"low f0", "high f2", "near f1 4", "among f0 1,3", "among f1 0,2,4,6,8", "order f2 0>1,1>2", "order f0 none", "order f1 " + formatOf(chain(8))} {
		for at := range len(s) + 1 {
			wantWishAsRead(t, s[:at])
			wantWishAsRead(t, s[at:])
			wantWishAsRead(t, s[:at]+s[min(at+1, len(s)):])
			for b := range 256 {
				c := string([]byte{byte(b)})
				wantWishAsRead(t, s[:at]+c+s[at:])
				if at < len(s) {
					wantWishAsRead(t, s[:at]+c+s[at+1:])
				}
			}
		}
		for _, other := range []string{"low f0", "near f1 4", "1,3", "0>1", "none"} {
			wantWishAsRead(t, s+" "+other)
			wantWishAsRead(t, other+" "+s)
			wantWishAsRead(t, s+","+other)
			wantWishAsRead(t, s+"; "+other)
			wantWishAsRead(t, s+other)
		}
	}
}

func TestParseWishRejects(t *testing.T) {
	for _, s := range []string{
		"", " ", "f0", "low", "low ", "low f", "low f0 ", " low f0", "low  f0", "low f 0", "low 0", "lowf0", "low\tf0", "low f0\n", "low F0", "Low f0", "LOW f0", "low f0 0", "low f0 4", "low f0 none", "high f1 9", "high f0 1,3",
		"low f3", "low f9", "low f10", "low f00", "low f01", "low f-1", "low f-0", "low f+1", "low ff0", "low g0", "low f4294967296", "low f18446744073709551616", "low f0x0", "low f０", "low f0\x00", "\xfflow f0", "\ufefflow f0",
		"best f0", "lower f0", "lo f0", "0 f0", "f0 low", "wish f0", " f0", "nil", "null",
		"near f1", "near f1 ", "near f1 10", "near f1 -1", "near f1 -0", "near f1 04", "near f1 +4", "near f1  4", "near f1 4 ", "near f1 4 4", "near f1 4,5", "near 1 4", "near f3 4", "near f1 x", "near f1 none", "near f1 4.0", "near f1 1234567890", "near f1 18446744073709551620",
		"among f1", "among f1 ", "among f1 none", "among f1 2,1", "among f1 1,1", "among f1 1,", "among f1 ,1", "among f1 1,,2", "among f1 1, 2", "among f1 1 2", "among f1 10", "among f1 9,10", "among f1 -1,0", "among f1 01", "among f1 1;2", "among f1 1>2", "among f3 1", "among f1 0,1,2,3,4,5,6,7,8,9,10",
		"order f2", "order f2 ", "order f2 0", "order f2 0,1", "order f2 0>1,1>0", "order f2 0>0", "order f2 0>10", "order f2 -1>0", "order f2 0>1,", "order f2 ,0>1", "order f2 0>1, 1>2", "order f2 0>1 1>2", "order f2 0<1", "order f2 None", "order f2 none ", "order f2 none,0>1", "order f3 0>1", "order f3 none", "order f2 0>1 ", "order f2  0>1",
		"order f0 " + formatOf(chain(9)), "order f0 " + formatOf(circle(8)),
		"low f0; low f1", "low f0 and", "not", "and",
		strings.Repeat("low ", 5000) + "f0", "low f" + strings.Repeat("0", 5000), "among f0 " + strings.Repeat("1,", 5000) + "1", "order f0 " + strings.Repeat("0>1,", 5000) + "0>1", strings.Repeat(" ", 5000), "near f0 " + strings.Repeat("4", 5000),
	} {
		wantWish(t, s, impl.Wish{}, false)
	}
}

func TestCodeName(t *testing.T) {
	for code, want := range map[int]string{impl.Worse: "worse", impl.Equal: "equal", impl.Better: "better", impl.Unrelated: "unrelated"} {
		if got := impl.CodeName(code); got != want {
			t.Errorf("CodeName(%d) = %q, want %q", code, got, want)
		}
	}
	for code := -300; code <= 300; code++ {
		if got := impl.CodeName(code); (got == "") != (code < impl.Worse || code > impl.Unrelated) {
			t.Errorf("CodeName(%d) = %q", code, got)
		}
	}
	for _, code := range append(slices.Clone(farValues[2:]), math.MaxInt-1, math.MinInt+1, 1<<32-1, 1<<32+1, -1<<32) {
		if got := impl.CodeName(code); got != "" {
			t.Errorf("CodeName(%d) = %q", code, got)
		}
	}
}

func TestWishesAreNotModified(t *testing.T) {
	list, l := []int{1, 3, 5, 5, 2, -7, 20}, append(pairs(3, 2, 1, 2, 0, 1), pairs(7, 7, 20, -5)...)
	x, y := item(1, 2, 3, 4), item(2, 4, 3, 2)
	wantList, wantRow, items := slices.Clone(list), slices.Clone(l), copyOfItems([]impl.Item{x, y})
	for count := range len(list) + 1 {
		for kind := -1; kind <= impl.WishOrder+1; kind++ {
			for _, w := range []impl.Wish{{Kind: kind, List: list[:count]}, {Kind: kind, Pairs: l[:min(count, len(l))]}} {
				impl.IsWish(w)
				impl.CompareValues(w, 1, 2)
				impl.CompareItems(w, x, y)
				impl.RankOfValue(w, 3)
				impl.FormatWish(w)
			}
		}
	}
	if !slices.Equal(list, wantList) || !slices.Equal(l, wantRow) || !reflect.DeepEqual(items, []impl.Item{x, y}) {
		t.Errorf("the arguments became %v, %v, %v and %v", list, l, x, y)
	}
}

func TestParseWishResultsShareNoMemory(t *testing.T) {
	among, _ := impl.ParseWish("among f0 1,3")
	order, _ := impl.ParseWish("order f0 0>1")
	if len(among.List) != 2 || len(order.Pairs) != 1 {
		t.Fatalf("%v and %v", among, order)
	}
	among.List[0], order.Pairs[0] = 2, impl.Pair{Better: 8, Worse: 7}
	wantWish(t, "among f0 1,3", amongWish(0, 1, 3), true)
	wantWish(t, "order f0 0>1", orderWish(0, pairs(0, 1)), true)
}
