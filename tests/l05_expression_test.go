package tests

// Promise 3, as far as expressions go: every expression defines a strict partial order of the items.
// Promise 2, as far as expressions go: they can be parsed from their string format, and no other strings are accepted.

import (
	"fmt"
	"math"
	"math/rand"
	"reflect"
	"slices"
	"strings"
	"testing"

	"loop.example/g01987/impl"
)

var allCodes = []int{impl.Worse, impl.Equal, impl.Better, impl.Unrelated}

var allOps = []int{impl.OpBase, impl.OpPareto, impl.OpPrior, impl.OpDual, impl.OpMeet}

// farOps are no ops, just beyond the limits and far from them.
var farOps = []int{-1, -2, 5, 6, 100, math.MaxInt, math.MinInt, 1 << 32, 1 << 8}

// nodes returns an expression of wishes and ops, written as in the document.
func nodes(parts ...any) []impl.Node {
	var e []impl.Node
	for _, p := range parts {
		switch x := p.(type) {
		case impl.Wish:
			e = append(e, impl.Node{Wish: x})
		case int:
			e = append(e, impl.Node{Op: x})
		case []impl.Node:
			e = append(e, x...)
		}
	}
	return e
}

func isBinary(op int) bool {
	return op == impl.OpPareto || op == impl.OpPrior || op == impl.OpMeet
}

// fillShape puts wishes into a list of ops.
func fillShape(shape []int, next func() impl.Wish) []impl.Node {
	var e []impl.Node
	for _, op := range shape {
		n := impl.Node{Op: op}
		if op == impl.OpBase {
			n.Wish = next()
		}
		e = append(e, n)
	}
	return e
}

func allLow() impl.Wish {
	return lowWish(0)
}

// shapesByLength returns for each length up to the limit all lists of ops that are the shape of an expression, built from smaller ones.
func shapesByLength(limit int) [][][]int {
	all := [][][]int{nil, {{impl.OpBase}}}
	for length := 2; length <= limit; length++ {
		var shapes [][]int
		for _, a := range all[length-1] {
			shapes = append(shapes, append(slices.Clone(a), impl.OpDual))
		}
		for first := 1; first < length-1; first++ {
			for _, a := range all[first] {
				for _, b := range all[length-1-first] {
					for _, op := range []int{impl.OpPareto, impl.OpPrior, impl.OpMeet} {
						shapes = append(shapes, slices.Concat(a, b, []int{op}))
					}
				}
			}
		}
		all = append(all, shapes)
	}
	return all[:limit+1]
}

// isShape finds out by replacing parts by their results, again and again, whether ops leave one result.
func isShape(shape []int) bool {
	var letters strings.Builder
	for _, op := range shape {
		switch {
		case op == impl.OpBase:
			letters.WriteString("w")
		case op == impl.OpDual:
			letters.WriteString("d")
		case isBinary(op):
			letters.WriteString("b")
		default:
			return false
		}
	}
	s := letters.String()
	for before := ""; s != before; {
		before = s
		s = strings.ReplaceAll(strings.ReplaceAll(s, "wd", "w"), "wwb", "w")
	}
	return s == "w" && len(shape) <= impl.MaxNodes
}

func shapeOf(e []impl.Node) []int {
	var shape []int
	for _, n := range e {
		shape = append(shape, n.Op)
	}
	return shape
}

// opLists returns all lists of ops up to a length.
func opLists(length int) [][]int {
	var all [][]int
	for _, s := range wordsOver("01234", length) {
		var l []int
		for _, c := range s {
			l = append(l, int(c-'0'))
		}
		all = append(all, l)
	}
	return all
}

// wishSource returns a function that draws wishes of all kinds and fields, always in the same sequence.
func wishSource(seed int64) func() impl.Wish {
	source := rand.New(rand.NewSource(seed))
	all := slices.Concat(fewWishes(0), fewWishes(1), fewWishes(2))
	return func() impl.Wish {
		return all[source.Intn(len(all))]
	}
}

// someExpressions returns expressions of all shapes up to 5 nodes and of some longer ones, with wishes of all kinds.
func someExpressions(each int) [][]impl.Node {
	source, next := rand.New(rand.NewSource(5)), wishSource(6)
	var all [][]impl.Node
	for length, shapes := range shapesByLength(impl.MaxNodes) {
		if length > 5 {
			source.Shuffle(len(shapes), func(i, j int) { shapes[i], shapes[j] = shapes[j], shapes[i] })
			shapes = shapes[:40]
		}
		for _, shape := range shapes {
			for range each {
				all = append(all, fillShape(shape, next))
			}
		}
	}
	return all
}

// relation says which of two items is better and which are equal.
type relation struct {
	better, equal [][]bool
}

func relationWhere(count int, better, equal func(a, b int) bool) relation {
	var r relation
	for a := range count {
		r.better = append(r.better, make([]bool, count))
		r.equal = append(r.equal, make([]bool, count))
		for b := range count {
			r.better[a][b], r.equal[a][b] = better(a, b), equal(a, b)
		}
	}
	return r
}

// relationOf finds without the program how a valid expression compares valid items. It asks only what is better and what is equal.
func relationOf(e []impl.Node, items []impl.Item) relation {
	var stack []relation
	for _, n := range e {
		last := len(stack) - 1
		switch n.Op {
		case impl.OpBase:
			codes := codesOf(n.Wish)
			code := func(a, b int) int {
				return codes[items[a].Values[n.Wish.Field]][items[b].Values[n.Wish.Field]]
			}
			stack = append(stack, relationWhere(len(items), func(a, b int) bool { return code(a, b) == impl.Better }, func(a, b int) bool { return code(a, b) == impl.Equal }))
		case impl.OpDual:
			r := stack[last]
			stack[last] = relationWhere(len(items), func(a, b int) bool { return r.better[b][a] }, func(a, b int) bool { return r.equal[a][b] })
		default:
			p, q := stack[last-1], stack[last]
			better := func(a, b int) bool {
				switch n.Op {
				case impl.OpPareto:
					return (p.better[a][b] || p.equal[a][b]) && (q.better[a][b] || q.equal[a][b]) && (p.better[a][b] || q.better[a][b])
				case impl.OpPrior:
					return p.better[a][b] || p.equal[a][b] && q.better[a][b]
				}
				return p.better[a][b] && q.better[a][b]
			}
			stack = append(stack[:last-1], relationWhere(len(items), better, func(a, b int) bool { return p.equal[a][b] && q.equal[a][b] }))
		}
	}
	return stack[0]
}

func (r relation) code(a, b int) int {
	switch {
	case r.better[a][b]:
		return impl.Better
	case r.better[b][a]:
		return impl.Worse
	case r.equal[a][b]:
		return impl.Equal
	}
	return impl.Unrelated
}

// spreadItems returns valid items whose values are all combinations of some values.
func spreadItems(values ...int) []impl.Item {
	var l []impl.Item
	for _, a := range values {
		for _, b := range values {
			for _, c := range values {
				l = append(l, item(len(l), a, b, c))
			}
		}
	}
	return l
}

// formatOfNodes writes nodes without the program, valid or not.
func formatOfNodes(e []impl.Node) string {
	var words []string
	for _, n := range e {
		word, ok := map[int]string{impl.OpPareto: "and", impl.OpPrior: "then", impl.OpDual: "not", impl.OpMeet: "both"}[n.Op]
		if !ok {
			word = formatOfWish(n.Wish)
		}
		words = append(words, word)
	}
	return strings.Join(words, "; ")
}

// readNodes reads an expression without the program.
func readNodes(s string) ([]impl.Node, bool) {
	var e []impl.Node
	for _, word := range strings.Split(s, "; ") {
		op, ok := map[string]int{"and": impl.OpPareto, "then": impl.OpPrior, "not": impl.OpDual, "both": impl.OpMeet}[word]
		if ok {
			e = append(e, impl.Node{Op: op})
			continue
		}
		w, ok := readWish(word)
		if !ok {
			return nil, false
		}
		e = append(e, impl.Node{Wish: w})
	}
	if !isShape(shapeOf(e)) {
		return nil, false
	}
	return e, true
}

func sameNodes(a, b []impl.Node) bool {
	return slices.EqualFunc(a, b, func(m, n impl.Node) bool { return m.Op == n.Op && sameWish(m.Wish, n.Wish) })
}

func copyOfWish(w impl.Wish) impl.Wish {
	w.List, w.Pairs = slices.Clone(w.List), slices.Clone(w.Pairs)
	return w
}

func copyOfNodes(e []impl.Node) []impl.Node {
	c := slices.Clone(e)
	for i := range c {
		c[i].Wish = copyOfWish(c[i].Wish)
	}
	return c
}

// invalidExpressions returns nodes that break one rule each, just beyond the limits and far from them.
func invalidExpressions() [][]impl.Node {
	low, high, among := lowWish(0), highWish(1), amongWish(2, 1, 3)
	all := [][]impl.Node{
		nil, {}, nodes(impl.OpDual), nodes(impl.OpPareto), nodes(low, high), nodes(low, low), nodes(low, impl.OpPareto), nodes(low, impl.OpPrior), nodes(low, impl.OpMeet),
		nodes(low, high, impl.OpDual), nodes(impl.OpDual, low), nodes(impl.OpPareto, low, high), nodes(low, impl.OpPareto, high), nodes(low, impl.OpDual, impl.OpPrior),
		nodes(low, high, among, impl.OpPareto), nodes(low, high, impl.OpMeet, impl.OpMeet), nodes(low, high, impl.OpPareto, impl.OpPareto, among), nodes(low, impl.OpMeet, high, among, impl.OpMeet),
	}
	for _, w := range invalidWishes() {
		all = append(all, nodes(w), nodes(w, impl.OpDual), nodes(w, low, impl.OpPareto), nodes(low, w, impl.OpPrior))
	}
	for _, op := range farOps {
		all = append(all, nodes(op), nodes(low, op), nodes(low, high, op), nodes(op, low), nodes(low, op, high, impl.OpPareto), nodes(impl.OpBase, impl.OpBase, op), []impl.Node{{Op: op, Wish: low}}, nodes(low, high, op, impl.OpDual))
	}
	for _, w := range []impl.Wish{highWish(0), lowWish(1), lowWish(2), {Kind: -1}, {Field: -1}, {Value: 1}, {Value: -1}, {List: []int{0}}, {Pairs: pairs(0, 0)}, {Pairs: pairs(0, 1)}, nearWish(0, 0), among, orderWish(0, nil), orderWish(0, pairs(0, 1))} {
		for _, op := range []int{impl.OpPareto, impl.OpPrior, impl.OpMeet} {
			all = append(all, append(nodes(low, high), impl.Node{Op: op, Wish: w}), append(append(nodes(low, high), impl.Node{Op: op, Wish: w}), nodes(impl.OpDual)...))
		}
		all = append(all, append(nodes(among), impl.Node{Op: impl.OpDual, Wish: w}))
	}
	for _, count := range []int{impl.MaxNodes, impl.MaxNodes + 1, 100, 5000} {
		all = append(all, nodes(low, slices.Repeat(nodes(impl.OpDual), count)), slices.Repeat(nodes(low), count), slices.Repeat(nodes(impl.OpPareto), count))
	}
	return append(all, nodes(low, slices.Repeat(nodes(high, impl.OpPareto), 4), impl.OpDual), nodes(slices.Repeat(nodes(low), 6), slices.Repeat(nodes(impl.OpMeet), 5)))
}

func wantExpression(t *testing.T, s string, want []impl.Node, ok bool) {
	t.Helper()
	if got, gotOk := impl.ParseExpression(s); !sameNodes(got, want) || gotOk != ok {
		t.Errorf("ParseExpression(%q) = %v, %t, want %v, %t", s, got, gotOk, want, ok)
	}
}

// wantExpressionAsRead checks ParseExpression for a string that may be anything.
func wantExpressionAsRead(t *testing.T, s string) {
	t.Helper()
	want, ok := readNodes(s)
	wantExpression(t, s, want, ok)
}

func wantCompare(t *testing.T, e []impl.Node, x, y impl.Item, want int) {
	t.Helper()
	if got := impl.CompareBy(e, x, y); got != want {
		t.Errorf("CompareBy(%s, %v, %v) = %d, want %d", formatOfNodes(e), x, y, got, want)
	}
}

func wantWishes(t *testing.T, e []impl.Node, want []impl.Wish) {
	t.Helper()
	if got := impl.WishesOf(e); !slices.EqualFunc(got, want, sameWish) {
		t.Errorf("WishesOf(%s) = %v, want %v", formatOfNodes(e), got, want)
	}
}

func wantEqualNodes(t *testing.T, a, b []impl.Node, want bool) {
	t.Helper()
	if impl.EqualExpressions(a, b) != want || impl.EqualExpressions(b, a) != want {
		t.Errorf("EqualExpressions(%v, %v) = %t, and exchanged %t, want %t", a, b, impl.EqualExpressions(a, b), impl.EqualExpressions(b, a), want)
	}
}

func wantJoined(t *testing.T, a, b []impl.Node, op int, want []impl.Node, ok bool) {
	t.Helper()
	if got, gotOk := impl.JoinExpressions(a, b, op); !sameNodes(got, want) || gotOk != ok {
		t.Errorf("JoinExpressions(%v, %v, %d) = %v, %t, want %v, %t", a, b, op, got, gotOk, want, ok)
	}
}

func TestExpressionConstants(t *testing.T) {
	if !slices.Equal(allOps, []int{0, 1, 2, 3, 4}) || impl.MaxNodes != 9 {
		t.Errorf("ops %v, limit %d", allOps, impl.MaxNodes)
	}
}

// Edge case: an expression of one wish.

func TestExpressionOfOneWish(t *testing.T) {
	for _, w := range validWishes() {
		e := nodes(w)
		if !impl.IsExpression(e) || impl.FormatExpression(e) != formatOfWish(w) {
			t.Errorf("%v: valid %t, format %q", w, impl.IsExpression(e), impl.FormatExpression(e))
		}
		wantExpression(t, formatOfWish(w), e, true)
		wantWishes(t, e, []impl.Wish{w})
		wantEqualNodes(t, e, nodes(copyOfWish(w)), true)
		wantEqualNodes(t, e, nil, false)
		wantEqualNodes(t, e, nodes(w, w), false)
		wantJoined(t, e, e, impl.OpMeet, nodes(w, w, impl.OpMeet), true)
	}
}

func TestExpressionOfOneWishComparesAsTheWish(t *testing.T) {
	for field := range impl.FieldCount {
		for _, w := range fewWishes(field) {
			codes := codesOf(w)
			for a := range valueCount {
				for b := range valueCount {
					x, y := item(3, 1, 2, 3), item(4, 3, 2, 1)
					x.Values[field], y.Values[field] = a, b
					wantCompare(t, nodes(w), x, y, codes[a][b])
					if impl.CompareItems(w, x, y) != codes[a][b] {
						t.Errorf("CompareItems(%v, %v, %v) = %d", w, x, y, impl.CompareItems(w, x, y))
					}
				}
			}
		}
	}
}

func TestExpressionOfOneInvalidWish(t *testing.T) {
	for _, w := range invalidWishes() {
		e := nodes(w)
		if impl.IsExpression(e) || impl.FormatExpression(e) != "" || len(impl.WishesOf(e)) != 0 {
			t.Errorf("%v is taken as an expression", w)
		}
		wantCompare(t, e, item(1, 2, 3, 4), item(1, 2, 3, 4), impl.Unrelated)
		wantEqualNodes(t, e, nodes(copyOfWish(w)), true)
		for _, op := range allOps {
			wantJoined(t, e, nodes(lowWish(0)), op, nil, false)
			wantJoined(t, nodes(lowWish(0)), e, op, nil, false)
		}
	}
}

func TestOneNodeWithoutAWish(t *testing.T) {
	if !impl.IsExpression(make([]impl.Node, 1)) || impl.FormatExpression(make([]impl.Node, 1)) != "low f0" {
		t.Error("the zero value is the wish that field 0 is low")
	}
	for _, op := range append(slices.Clone(allOps[1:]), farOps...) {
		if impl.IsExpression(nodes(op)) {
			t.Errorf("the op %d has no operands", op)
		}
	}
}

func TestIsExpressionOfAllShortShapes(t *testing.T) {
	count := 0
	for _, shape := range opLists(7) {
		want := isShape(shape)
		if got := impl.IsExpression(fillShape(shape, allLow)); got != want {
			t.Errorf("IsExpression with the ops %v = %t, want %t", shape, got, want)
		}
		if want {
			count++
		}
	}
	if count != 1+1+4+10+37+121+451 {
		t.Errorf("the test knows %d shapes", count)
	}
}

func TestIsExpressionAtTheLimit(t *testing.T) {
	shapes := shapesByLength(impl.MaxNodes + 1)
	for length, all := range shapes {
		for _, shape := range all {
			if got := impl.IsExpression(fillShape(shape, allLow)); got != (length <= impl.MaxNodes) {
				t.Errorf("IsExpression with the %d ops %v = %t", length, shape, got)
			}
		}
	}
	if len(shapes[9]) != 6259 || len(shapes[10]) != 23923 {
		t.Errorf("the test knows %d and %d shapes", len(shapes[9]), len(shapes[10]))
	}
}

func TestIsExpressionLooksAtTheLengthOnly(t *testing.T) {
	e := nodes(lowWish(0), highWish(1), impl.OpPareto, impl.OpDual, -1)
	for count, want := range []bool{false, true, false, true, true, false} {
		if got := impl.IsExpression(e[:count]); got != want {
			t.Errorf("IsExpression(%v) = %t", e[:count], got)
		}
	}
}

func TestOperatorsHaveEmptyWishes(t *testing.T) {
	empty := impl.Wish{List: []int{}, Pairs: []impl.Pair{}}
	behind := impl.Wish{List: []int{1, 2}[:0], Pairs: pairs(0, 1)[:0]}
	for _, w := range []impl.Wish{empty, behind} {
		for _, op := range allOps[1:] {
			e := append(nodes(highWish(0)), impl.Node{Op: op, Wish: w})
			if op != impl.OpDual {
				e = append(nodes(lowWish(1)), e...)
			}
			plain := copyOfNodes(e)
			plain[len(e)-1].Wish = impl.Wish{}
			if !impl.IsExpression(e) || impl.FormatExpression(e) != formatOfNodes(plain) || !impl.EqualExpressions(e, plain) {
				t.Errorf("%#v is not like %#v", e, plain)
			}
			wantCompare(t, e, item(1, 2, 3, 4), item(1, 2, 3, 4), impl.Equal)
		}
	}
}

func TestInvalidExpressionsHaveFixedResults(t *testing.T) {
	for _, e := range invalidExpressions() {
		if impl.IsExpression(e) {
			t.Errorf("IsExpression(%v) = true", e)
		}
		if got := impl.FormatExpression(e); got != "" {
			t.Errorf("FormatExpression(%v) = %q", e, got)
		}
		wantWishes(t, e, nil)
		wantCompare(t, e, item(1, 2, 3, 4), item(2, 4, 3, 2), impl.Unrelated)
		wantCompare(t, e, item(1, 2, 3, 4), item(1, 2, 3, 4), impl.Unrelated)
		wantCompare(t, e, impl.Item{}, impl.Item{}, impl.Unrelated)
		wantEqualNodes(t, e, copyOfNodes(e), true)
		for _, op := range append(slices.Clone(allOps), 5, -1) {
			wantJoined(t, e, nodes(lowWish(0)), op, nil, false)
			wantJoined(t, nodes(highWish(2), impl.OpDual), e, op, nil, false)
			wantJoined(t, e, e, op, nil, false)
		}
	}
}

// wishWithCode returns a wish for a field by which 0 compares with the returned value as the code says.
func wishWithCode(field, code int) (impl.Wish, int) {
	w := orderWish(field, pairs(0, 1, 2, 0))
	return w, map[int]int{impl.Better: 1, impl.Worse: 2, impl.Equal: 0, impl.Unrelated: 3}[code]
}

func TestOperatorsCombineAllCodes(t *testing.T) {
	const worse, equal, better, unrelated = impl.Worse, impl.Equal, impl.Better, impl.Unrelated
	// Rows are the codes of the first operand and columns those of the second one, both in the order of allCodes.
	for op, table := range map[int][4][4]int{
		impl.OpPareto: {
			{worse, worse, unrelated, unrelated},
			{worse, equal, better, unrelated},
			{unrelated, better, better, unrelated},
			{unrelated, unrelated, unrelated, unrelated},
		},
		impl.OpPrior: {
			{worse, worse, worse, worse},
			{worse, equal, better, unrelated},
			{better, better, better, better},
			{unrelated, unrelated, unrelated, unrelated},
		},
		impl.OpMeet: {
			{worse, unrelated, unrelated, unrelated},
			{unrelated, equal, unrelated, unrelated},
			{unrelated, unrelated, better, unrelated},
			{unrelated, unrelated, unrelated, unrelated},
		},
	} {
		for i, a := range allCodes {
			for j, b := range allCodes {
				v, p := wishWithCode(0, a)
				w, q := wishWithCode(2, b)
				wantCompare(t, nodes(v, w, op), item(1, 0, 5, 0), item(2, p, 4, q), table[i][j])
				dual := table[i][j]
				if dual != unrelated {
					dual = -dual
				}
				wantCompare(t, nodes(v, w, op, impl.OpDual), item(1, 0, 5, 0), item(2, p, 4, q), dual)
				wantCompare(t, nodes(v, w, op), item(2, p, 4, q), item(1, 0, 5, 0), dual)
			}
		}
	}
}

func TestDualExchangesBetterAndWorse(t *testing.T) {
	for code, want := range map[int]int{impl.Better: impl.Worse, impl.Worse: impl.Better, impl.Equal: impl.Equal, impl.Unrelated: impl.Unrelated} {
		w, v := wishWithCode(1, code)
		x, y := item(7, 1, 0, 1), item(8, 1, v, 1)
		wantCompare(t, nodes(w), x, y, code)
		wantCompare(t, nodes(w, impl.OpDual), x, y, want)
		wantCompare(t, nodes(w, impl.OpDual, impl.OpDual), x, y, code)
		for count := range impl.MaxNodes {
			even := count%2 == 0
			wantCompare(t, nodes(w, slices.Repeat(nodes(impl.OpDual), count)), x, y, map[bool]int{true: code, false: want}[even])
		}
	}
}

func TestCompareBy(t *testing.T) {
	a, b, c, d := item(1, 2, 5, 0), item(2, 3, 3, 0), item(3, 2, 3, 9), item(4, 2, 5, 1)
	low0, low1, high2 := lowWish(0), lowWish(1), highWish(2)
	for _, test := range []struct {
		e    []impl.Node
		x, y impl.Item
		want int
	}{
		{nodes(low0, low1, impl.OpPareto), a, b, impl.Unrelated},
		{nodes(low0, low1, impl.OpPareto), a, c, impl.Worse},
		{nodes(low0, low1, impl.OpPareto), a, d, impl.Equal},
		{nodes(low0, low1, impl.OpPareto), c, b, impl.Better},
		{nodes(low0, low1, impl.OpPrior), a, b, impl.Better},
		{nodes(low1, low0, impl.OpPrior), a, b, impl.Worse},
		{nodes(low0, low1, impl.OpPrior), a, c, impl.Worse},
		{nodes(low0, low1, impl.OpMeet), a, c, impl.Unrelated},
		{nodes(low0, low1, impl.OpMeet), a, d, impl.Equal},
		{nodes(low0, high2, impl.OpMeet), c, b, impl.Better},
		{nodes(low0, low1, high2, impl.OpPrior, impl.OpPareto), a, b, impl.Unrelated},
		{nodes(low0, low1, impl.OpPareto, high2, impl.OpPrior), a, d, impl.Worse},
		{nodes(low0, low1, high2, impl.OpPareto, impl.OpPrior), a, d, impl.Worse},
		{nodes(low0, low1, high2, impl.OpDual, impl.OpPareto, impl.OpPrior), a, d, impl.Better},
		{nodes(low0, low1, impl.OpDual, high2, impl.OpPareto, impl.OpPrior), a, c, impl.Unrelated},
		{nodes(low0), a, a, impl.Equal},
	} {
		wantCompare(t, test.e, test.x, test.y, test.want)
	}
}

func TestCompareByAgreesWithRelations(t *testing.T) {
	items := append(spreadItems(0, 3, 4), item(50, 9, 5, 1), item(51, 1, 2, 9), item(52, 8, 7, 6), item(53, 5, 9, 7))
	for _, e := range someExpressions(4) {
		want := relationOf(e, items)
		for a, x := range items {
			for b, y := range items {
				wantCompare(t, e, x, y, want.code(a, b))
			}
		}
	}
}

func TestExpressionsAreStrictPartialOrders(t *testing.T) {
	for i, e := range someExpressions(4) {
		items := spreadItems(i%4, 4+i%3, 7+i%3)
		codes := make([][]int, len(items))
		for a, x := range items {
			for _, y := range items {
				codes[a] = append(codes[a], impl.CompareBy(e, x, y))
			}
		}
		wantStrictPartialOrder(t, formatOfNodes(e), codes)
	}
}

func TestCompareByDoesNotLookAtIds(t *testing.T) {
	for _, e := range someExpressions(1) {
		for _, ids := range [][2]int{{0, 99}, {99, 0}, {5, 5}} {
			wantCompare(t, e, item(ids[0], 4, 2, 7), item(ids[1], 4, 2, 7), impl.Equal)
			x, y := item(ids[0], 0, 4, 1), item(ids[1], 3, 0, 5)
			wantCompare(t, e, x, y, relationOf(e, []impl.Item{x, y}).code(0, 1))
		}
	}
}

func TestCompareByWithAnInvalidItem(t *testing.T) {
	valid := item(2, 2, 3, 4)
	for _, e := range [][]impl.Node{nodes(lowWish(0)), nodes(orderWish(2, nil)), nodes(lowWish(0), highWish(0), impl.OpPareto), nodes(lowWish(1), lowWish(1), impl.OpMeet, impl.OpDual), nodes(lowWish(0), nearWish(1, 4), impl.OpPrior)} {
		for _, x := range invalidItems() {
			wantCompare(t, e, x, valid, impl.Unrelated)
			wantCompare(t, e, valid, x, impl.Unrelated)
			wantCompare(t, e, x, x, impl.Unrelated)
		}
		wantCompare(t, e, valid, valid, impl.Equal)
	}
}

func TestWishesOf(t *testing.T) {
	v, w, u := orderWish(2, pairs(0, 1)), nearWish(0, 4), amongWish(1, 3, 7)
	wantWishes(t, nodes(v, w, impl.OpPareto), []impl.Wish{v, w})
	wantWishes(t, nodes(w, v, impl.OpDual, impl.OpPrior), []impl.Wish{w, v})
	wantWishes(t, nodes(w, v, u, impl.OpPrior, impl.OpMeet), []impl.Wish{w, v, u})
	wantWishes(t, nodes(w, w, impl.OpMeet), []impl.Wish{w, w})
	for _, e := range someExpressions(2) {
		var want []impl.Wish
		for _, n := range e {
			if n.Op == impl.OpBase {
				want = append(want, n.Wish)
			}
		}
		wantWishes(t, e, want)
	}
}

func TestFormatExpression(t *testing.T) {
	low, high := lowWish(0), highWish(1)
	for want, e := range map[string][]impl.Node{
		"low f0; high f1; and":                                 nodes(low, high, impl.OpPareto),
		"low f0; high f1; then":                                nodes(low, high, impl.OpPrior),
		"low f0; not":                                          nodes(low, impl.OpDual),
		"low f0; high f1; both":                                nodes(low, high, impl.OpMeet),
		"low f0; high f1; and; not":                            nodes(low, high, impl.OpPareto, impl.OpDual),
		"low f0; high f1; not; then":                           nodes(low, high, impl.OpDual, impl.OpPrior),
		"near f1 4; among f2 1,3; order f0 0>1,1>2; and; both": nodes(nearWish(1, 4), amongWish(2, 1, 3), orderWish(0, pairs(0, 1, 1, 2)), impl.OpPareto, impl.OpMeet),
		"order f1 none":                                        nodes(orderWish(1, nil)),
		"low f0" + strings.Repeat("; not", 8):                  nodes(low, slices.Repeat(nodes(impl.OpDual), 8)),
		strings.Repeat("low f0; ", 5) + "and; then; both; and": nodes(slices.Repeat(nodes(low), 5), impl.OpPareto, impl.OpPrior, impl.OpMeet, impl.OpPareto),
	} {
		if got := impl.FormatExpression(e); got != want {
			t.Errorf("FormatExpression(%v) = %q, want %q", e, got, want)
		}
		wantExpression(t, want, e, true)
	}
}

func TestExpressionRoundTrip(t *testing.T) {
	for _, e := range someExpressions(3) {
		want := formatOfNodes(e)
		if got := impl.FormatExpression(e); got != want {
			t.Errorf("FormatExpression(%v) = %q, want %q", e, got, want)
		}
		wantExpression(t, want, e, true)
	}
	for length, shapes := range shapesByLength(impl.MaxNodes + 1) {
		for i, shape := range shapes {
			if length < 7 || i%20 == 0 {
				wantExpressionAsRead(t, formatOfNodes(fillShape(shape, allLow)))
			}
		}
	}
}

func TestParseExpressionOfAllShortShapes(t *testing.T) {
	for _, shape := range opLists(6) {
		wantExpressionAsRead(t, formatOfNodes(fillShape(shape, allLow)))
	}
}

func TestParseExpressionRejectsInvalidExpressions(t *testing.T) {
	for _, e := range invalidExpressions() {
		inKinds := !slices.ContainsFunc(e, func(n impl.Node) bool { return n.Wish.Kind < impl.WishLow || n.Wish.Kind > impl.WishOrder })
		if inKinds {
			wantExpressionAsRead(t, formatOfNodes(e))
		}
	}
}

func TestParseExpressionOfAllShortStrings(t *testing.T) {
	for _, s := range append(wordsOver("andothe; ", 5), wordsOver(allBytes(), 2)...) {
		wantExpressionAsRead(t, s)
		wantExpressionAsRead(t, "low f0"+s)
	}
	for _, s := range wordsOver("not; ", 5) {
		wantExpressionAsRead(t, "low f0; "+s)
		wantExpressionAsRead(t, s+"high f2; not")
		wantExpressionAsRead(t, "low f0; "+s+"; not")
	}
	pieces := []string{"low f0", "near f1 4", "and", "then", "not", "both", "; ", ";", " "}
	for _, word := range wordsOver("012345678", 5) {
		var s strings.Builder
		for _, c := range word {
			s.WriteString(pieces[c-'0'])
		}
		wantExpressionAsRead(t, s.String())
		wantExpressionAsRead(t, "low f0; high f1; "+s.String())
	}
}

func TestParseExpressionOfChangedFormats(t *testing.T) {
	for _, s := range []string{"low f0", "low f0; not", "low f0; high f1; and", "near f1 4; among f0 1,3; then", "order f2 0>1,1>2; low f0; both; not", "order f0 none; order f1 none; and", "among f0 1,3; low f2; high f1; and; not; then", "low f0; not; not; not; not; not; not; not; not"} {
		for at := range len(s) + 1 {
			wantExpressionAsRead(t, s[:at])
			wantExpressionAsRead(t, s[at:])
			wantExpressionAsRead(t, s[:at]+s[min(at+1, len(s)):])
			for b := range 256 {
				c := string([]byte{byte(b)})
				wantExpressionAsRead(t, s[:at]+c+s[at:])
				if at < len(s) {
					wantExpressionAsRead(t, s[:at]+c+s[at+1:])
				}
			}
			for _, other := range []string{"; ", "; not", "not; ", "; low f0", "low f0; ", "; and", "\r\n", "  "} {
				wantExpressionAsRead(t, s[:at]+other+s[at:])
			}
		}
	}
}

func TestParseExpressionRejects(t *testing.T) {
	for _, s := range []string{
		"", " ", ";", "; ", "not", "and", "then", "both", "or", "base", "pareto", "prior", "dual", "meet", "nil",
		"low f0;", "low f0; ", "; low f0", " low f0", "low f0 ", "low f0;not", "low f0 ; not", "low f0;  not", "low f0;\tnot", "low f0;\nnot", "low f0, not", "low f0: not", "low f0 not", "low f0\nnot", "low f0; not;", "low f0; not; ", "low f0; not\n", "low f0; not\x00", "low f0; Not", "low f0; NOT", "low f0; nots", "low f0; no", "low f0; not not", "low f0; dual", "low f0; 3", "not; low f0", "low f0; ; not",
		"low f0;high f1; and", "low f0; high f1;and", "low f0; high f1 and", "low f0 and high f1", "low f0; and; high f1", "and; low f0; high f1", "low f0; high f1", "low f0; low f0", "low f0; and", "low f0; high f1; not", "low f0; high f1; and; and", "low f0; high f1; or", "low f0; high f1; And", "low f0; high f1; andthen", "low f0; high f1; and then", "low f0; high f1; and low f0", "low f0; ; high f1; and", "low f0; high f1; ; and", "low f0; high f3; and", "low f3; high f1; and", "low f0; near f1; and", "low f0; among f1 3,1; and", "low f0; order f1 0>0; and", "low f0; order f1 0>1; 1>2; and", "low f0; among f1 1; 3; and",
		"low f0" + strings.Repeat("; not", 9), strings.Repeat("low f0; ", 5) + "and; and; and; and; not", strings.Repeat("low f0; ", 6) + "and; and; and; and; and", strings.Repeat("low f0; ", 5) + "and; and; and", strings.Repeat("low f0; ", 4) + "and; and; and; and",
		"low f0" + strings.Repeat("; not", 5000), strings.Repeat("low f0; ", 5000) + "and", strings.Repeat("; ", 5000), "low f0" + strings.Repeat(";", 5000), "low f0" + strings.Repeat("; low f0; and", 5000),
	} {
		wantExpression(t, s, nil, false)
	}
}

func TestEqualExpressions(t *testing.T) {
	wantEqualNodes(t, nil, nil, true)
	wantEqualNodes(t, nil, []impl.Node{}, true)
	wantEqualNodes(t, nil, make([]impl.Node, 1), false)
	all := someExpressions(1)
	for i, a := range all {
		for j, b := range all[:min(len(all), 120)] {
			wantEqualNodes(t, a, copyOfNodes(b), i == j || formatOfNodes(a) == formatOfNodes(b))
		}
	}
}

func TestEqualExpressionsLooksAtAllFields(t *testing.T) {
	plain := impl.Node{Op: 7, Wish: impl.Wish{Kind: -3, Field: 12, Value: 40, List: []int{5, 5, -1}, Pairs: pairs(1, 1, 20, -4)}}
	changes := []func(n *impl.Node){
		func(n *impl.Node) { n.Op = 8 },
		func(n *impl.Node) { n.Op = impl.OpBase },
		func(n *impl.Node) { n.Wish.Kind = 3 },
		func(n *impl.Node) { n.Wish.Field = 13 },
		func(n *impl.Node) { n.Wish.Value = -40 },
		func(n *impl.Node) { n.Wish.List = nil },
		func(n *impl.Node) { n.Wish.List[2] = 1 },
		func(n *impl.Node) { n.Wish.List[0] = 6 },
		func(n *impl.Node) { n.Wish.List = n.Wish.List[:2] },
		func(n *impl.Node) { n.Wish.List = append(n.Wish.List, 0) },
		func(n *impl.Node) { n.Wish.Pairs = nil },
		func(n *impl.Node) { n.Wish.Pairs[0].Better = 2 },
		func(n *impl.Node) { n.Wish.Pairs[0].Worse = 2 },
		func(n *impl.Node) { n.Wish.Pairs[1].Worse = 4 },
		func(n *impl.Node) { n.Wish.Pairs = n.Wish.Pairs[:1] },
		func(n *impl.Node) { n.Wish.Pairs = append(n.Wish.Pairs, impl.Pair{}) },
		func(n *impl.Node) { slices.Reverse(n.Wish.Pairs) },
		func(n *impl.Node) { slices.Reverse(n.Wish.List) },
	}
	for _, count := range []int{1, 2, 9, 10, 30} {
		for at := range count {
			for i, change := range changes {
				a := copyOfNodes(slices.Repeat([]impl.Node{plain}, count))
				b := copyOfNodes(a)
				wantEqualNodes(t, a, b, true)
				change(&b[at])
				if impl.EqualExpressions(a, b) || impl.EqualExpressions(b, a) {
					t.Errorf("change %d of node %d of %d makes no difference", i, at, count)
				}
			}
		}
	}
}

func TestEqualExpressionsOfDifferentLengths(t *testing.T) {
	e := nodes(lowWish(0), lowWish(0), impl.OpPareto, impl.OpDual, impl.OpDual)
	for a := range len(e) + 1 {
		for b := range len(e) + 1 {
			wantEqualNodes(t, e[:a], e[:b], a == b)
			wantEqualNodes(t, e[a:], e[b:], a == b)
		}
	}
	wantEqualNodes(t, e[:1], e[1:2], true)
	wantEqualNodes(t, e[3:4], e[4:], true)
	full := impl.Wish{List: []int{}, Pairs: []impl.Pair{}}
	wantEqualNodes(t, nodes(full), nodes(impl.Wish{}), true)
}

func TestJoinExpressions(t *testing.T) {
	a, b := nodes(lowWish(0)), nodes(highWish(2), impl.OpDual)
	for op, word := range map[int]string{impl.OpPareto: "and", impl.OpPrior: "then", impl.OpMeet: "both"} {
		wantJoined(t, a, b, op, nodes(lowWish(0), highWish(2), impl.OpDual, op), true)
		wantJoined(t, b, a, op, nodes(highWish(2), impl.OpDual, lowWish(0), op), true)
		wantJoined(t, a, a, op, nodes(lowWish(0), lowWish(0), op), true)
		joined, _ := impl.JoinExpressions(a, b, op)
		if got := impl.FormatExpression(joined); got != "low f0; high f2; not; "+word {
			t.Errorf("the joined expression is %q", got)
		}
	}
	for _, op := range append([]int{impl.OpBase, impl.OpDual}, farOps...) {
		wantJoined(t, a, b, op, nil, false)
		wantJoined(t, b, b, op, nil, false)
	}
}

func TestJoinExpressionsOfAllLengths(t *testing.T) {
	next, shapes := wishSource(8), shapesByLength(impl.MaxNodes)
	for first := 1; first <= impl.MaxNodes; first++ {
		for second := 1; second <= impl.MaxNodes; second++ {
			for i := range 10 {
				a := fillShape(shapes[first][i*7%len(shapes[first])], next)
				b := fillShape(shapes[second][i*11%len(shapes[second])], next)
				for _, op := range append(slices.Clone(allOps), -1, 5) {
					if isBinary(op) && first+second+1 <= impl.MaxNodes {
						wantJoined(t, a, b, op, nodes(a, b, op), true)
					} else {
						wantJoined(t, a, b, op, nil, false)
					}
				}
			}
		}
	}
}

func TestJoinExpressionsNeedsTwoExpressions(t *testing.T) {
	low, and := lowWish(0), impl.OpPareto
	for _, c := range [][2][]impl.Node{
		{nodes(low, low), nodes(and)}, {nodes(low, low, low), nodes(and)}, {nodes(low, low), nil}, {nil, nodes(low, low)}, {nil, nil}, {nil, nodes(low)}, {nodes(low), nil},
		{nodes(low, low), nodes(low, and)}, {nodes(low, low), nodes(impl.OpDual)}, {nodes(low, low, low), nodes(and, impl.OpDual)}, {nil, nodes(low, low, low, and)},
	} {
		for _, op := range allOps {
			wantJoined(t, c[0], c[1], op, nil, false)
		}
	}
}

// overwriteLists changes in place what an expression or its copy may hold.
func overwriteLists(w impl.Wish) {
	for i := range w.List {
		w.List[i] = 2
	}
	for i := range w.Pairs {
		w.Pairs[i] = impl.Pair{Better: 8, Worse: 7}
	}
}

func TestExpressionResultsShareNoMemory(t *testing.T) {
	a, b := nodes(amongWish(0, 1, 3), orderWish(1, pairs(0, 1)), impl.OpPareto), nodes(orderWish(2, pairs(3, 2)), amongWish(1, 4, 5), impl.OpMeet)
	for _, operands := range [][2][]impl.Node{{a, b}, {b, a}, {a, a}} {
		first, second := copyOfNodes(operands[0]), copyOfNodes(operands[1])
		joined, _ := impl.JoinExpressions(operands[0], operands[1], impl.OpPrior)
		wantJoined := nodes(first, second, impl.OpPrior)
		wishes := impl.WishesOf(joined)
		if len(joined) != 7 || len(wishes) != 4 {
			t.Fatalf("%v and %v", joined, wishes)
		}
		for _, w := range wishes {
			overwriteLists(w)
		}
		if !reflect.DeepEqual(joined, wantJoined) {
			t.Errorf("with the wishes, their expression became %v", joined)
		}
		for i, n := range joined {
			overwriteLists(n.Wish)
			if !reflect.DeepEqual(joined[i+1:], wantJoined[i+1:]) {
				t.Errorf("with the node %d, others became %v", i, joined)
			}
		}
		if !reflect.DeepEqual(operands[0], first) || !reflect.DeepEqual(operands[1], second) {
			t.Errorf("the operands became %v", operands)
		}
	}
}

func TestParsedExpressionsShareNoMemory(t *testing.T) {
	s := "among f0 1,3; order f1 0>1; and; among f0 1,3; then"
	want, _ := readNodes(s)
	e, ok := impl.ParseExpression(s)
	if !ok || !sameNodes(e, want) {
		t.Fatalf("%v, %t", e, ok)
	}
	overwriteLists(e[0].Wish)
	overwriteLists(e[1].Wish)
	if !sameNodes(e[2:], want[2:]) {
		t.Errorf("one part of a result changes another one: %v", e)
	}
	wantExpression(t, s, want, true)
}

func TestExpressionsAreNotModified(t *testing.T) {
	row := nodes(amongWish(0, 1, 3), orderWish(1, pairs(2, 1, 1, 0)), impl.OpPareto, lowWish(2), impl.OpMeet, nearWish(0, 12), -7, amongWish(1, 4, 4, 2))
	x, y := item(1, 2, 3, 4), item(2, 4, 3, 2)
	wantRow, items := copyOfNodes(row), copyOfItems([]impl.Item{x, y})
	for from := range len(row) + 1 {
		for to := from; to <= len(row); to++ {
			e := row[from:to]
			impl.IsExpression(e)
			impl.CompareBy(e, x, y)
			impl.WishesOf(e)
			impl.FormatExpression(e)
			impl.EqualExpressions(e, row)
			for _, op := range allOps {
				impl.JoinExpressions(e, row[:1], op)
				impl.JoinExpressions(row[:1], e, op)
				impl.JoinExpressions(row[:3], row[3:4], op)
			}
		}
	}
	if !reflect.DeepEqual(row, wantRow) || !reflect.DeepEqual(items, []impl.Item{x, y}) {
		t.Errorf("the arguments became %v, %v and %v", row, x, y)
	}
}

func TestExpressionsKeepNoState(t *testing.T) {
	e := nodes(amongWish(0, 1, 3), lowWish(1), impl.OpPrior)
	x, y := item(1, 1, 0, 0), item(2, 2, 0, 0)
	for i := range 4 {
		// The same memory holds another expression in every second round.
		e[0].Wish.List[0] = 1 + i%2
		want := []int{impl.Better, impl.Worse}[i%2]
		wantCompare(t, e, x, y, want)
		if got := impl.FormatExpression(e); got != fmt.Sprintf("among f0 %d,3; low f1; then", 1+i%2) {
			t.Errorf("the format is %q", got)
		}
	}
}
