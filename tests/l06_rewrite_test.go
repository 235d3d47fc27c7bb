package tests

// Promise 4: every rewriting preserves the comparisons of all items.

import (
	"math"
	"reflect"
	"slices"
	"strings"
	"testing"

	"loop.example/g01987/impl"
)

var allRules = []int{impl.RuleDualDual, impl.RuleDualPush, impl.RuleIdempotent, impl.RuleCommute}

// noRules are the constant for no rule, and numbers just beyond the limits and far from them.
var noRules = []int{impl.RuleNone, -1, -2, 5, 6, 100, math.MaxInt, math.MinInt, 1 << 32, 1<<32 + 1, 1<<8 + 1}

// reading returns an expression from its format, read without the program.
func reading(t *testing.T, s string) []impl.Node {
	t.Helper()
	e, ok := readNodes(s)
	if !ok {
		t.Fatalf("the test can't read %q", s)
	}
	return e
}

// startsOf returns for each node of a valid expression the index at which the part that ends there begins.
func startsOf(e []impl.Node) []int {
	var starts, open []int
	for at, n := range e {
		operands := map[bool]int{isBinary(n.Op): 2, n.Op == impl.OpDual: 1, n.Op == impl.OpBase: 0}[true]
		begin := at
		if operands > 0 {
			begin = open[len(open)-operands]
		}
		open = append(open[:len(open)-operands], begin)
		starts = append(starts, begin)
	}
	return starts
}

// rewritten applies a rule to a valid expression without the program, by moving pieces of the list.
func rewritten(e []impl.Node, rule, at int) ([]impl.Node, bool) {
	if at < 1 || at >= len(e) {
		return e, false
	}
	starts := startsOf(e)
	begin, op, opBefore, this := starts[at], e[at].Op, e[at-1].Op, e[at:at+1]
	var part []impl.Node
	switch {
	case rule == impl.RuleDualDual && op == impl.OpDual && opBefore == impl.OpDual:
		part = e[begin : at-1]
	case rule == impl.RuleDualPush && op == impl.OpDual && isBinary(opBefore):
		middle := starts[at-2]
		part = slices.Concat(e[begin:middle], this, e[middle:at-1], this, e[at-1:at])
	case rule == impl.RuleIdempotent && isBinary(op) && sameNodes(e[begin:starts[at-1]], e[starts[at-1]:at]):
		part = e[starts[at-1]:at]
	case rule == impl.RuleCommute && (op == impl.OpPareto || op == impl.OpMeet):
		part = slices.Concat(e[starts[at-1]:at], e[begin:starts[at-1]], this)
	default:
		return e, false
	}
	after := slices.Concat(e[:begin], part, e[at+1:])
	if len(after) > 9 {
		return e, false
	}
	return after, true
}

// allRewritten returns all rewritings of a valid expression without the program.
func allRewritten(e []impl.Node) []impl.Rewriting {
	var all []impl.Rewriting
	for at := range e {
		for _, rule := range allRules {
			if after, ok := rewritten(e, rule, at); ok {
				all = append(all, impl.Rewriting{Rule: rule, At: at, After: after})
			}
		}
	}
	return all
}

// normalOf normalizes a valid expression without the program.
func normalOf(e []impl.Node) []impl.Node {
	for range 60 {
		steps := slices.DeleteFunc(allRewritten(e), func(r impl.Rewriting) bool { return r.Rule == impl.RuleCommute })
		if len(steps) == 0 {
			break
		}
		e = steps[0].After
	}
	return e
}

// rewriteSamples returns expressions of many shapes, also with few wishes, so that operands are often equal.
func rewriteSamples() [][]impl.Node {
	all := someExpressions(1)
	few := []impl.Wish{amongWish(0, 1, 3), amongWish(0, 1, 3), orderWish(1, pairs(0, 1, 1, 2))}
	for length, shapes := range shapesByLength(impl.MaxNodes) {
		for i, shape := range shapes {
			if length < 8 || i%4 == 0 {
				next := i
				all = append(all, fillShape(shape, allLow), fillShape(shape, func() impl.Wish {
					next++
					return few[next/2%3]
				}))
			}
		}
	}
	return all
}

// placesAround returns all indices of a list and some that are out of range.
func placesAround(length int) []int {
	places := []int{-1, -2, length, length + 1, math.MaxInt, math.MinInt, 1 << 32}
	for at := range length {
		places = append(places, at)
	}
	return places
}

func wantApplied(t *testing.T, e []impl.Node, rule, at int, want []impl.Node, ok bool) {
	t.Helper()
	if got, gotOk := impl.ApplyRule(e, rule, at); !sameNodes(got, want) || gotOk != ok {
		t.Errorf("ApplyRule(%s, %d, %d) = %s, %t, want %s, %t", formatOfNodes(e), rule, at, formatOfNodes(got), gotOk, formatOfNodes(want), ok)
	}
}

func wantSubtree(t *testing.T, e []impl.Node, at int, want []impl.Node) {
	t.Helper()
	if got := impl.Subtree(e, at); !sameNodes(got, want) {
		t.Errorf("Subtree(%s, %d) = %s, want %s", formatOfNodes(e), at, formatOfNodes(got), formatOfNodes(want))
	}
}

func wantNormal(t *testing.T, e, want []impl.Node) {
	t.Helper()
	if got := impl.NormalizeExpression(e); !sameNodes(got, want) {
		t.Errorf("NormalizeExpression(%s) = %s, want %s", formatOfNodes(e), formatOfNodes(got), formatOfNodes(want))
	}
}

func sameRewriting(r, s impl.Rewriting) bool {
	return r.Rule == s.Rule && r.At == s.At && sameNodes(r.After, s.After)
}

func wantRewritings(t *testing.T, e []impl.Node, want []impl.Rewriting) {
	t.Helper()
	if got := impl.Rewritings(e); !slices.EqualFunc(got, want, sameRewriting) {
		t.Errorf("Rewritings(%s) = %v, want %v", formatOfNodes(e), got, want)
	}
}

func wantAgree(t *testing.T, a, b []impl.Node, items []impl.Item, want bool) {
	t.Helper()
	if impl.AgreeOn(a, b, items) != want || impl.AgreeOn(b, a, items) != want {
		t.Errorf("AgreeOn(%s, %s, %v) = %t, and exchanged %t, want %t", formatOfNodes(a), formatOfNodes(b), items, impl.AgreeOn(a, b, items), impl.AgreeOn(b, a, items), want)
	}
}

// wantSameComparisons checks that two valid expressions compare all items in the same way, by the program and without it.
func wantSameComparisons(t *testing.T, before, after []impl.Node, items []impl.Item) {
	t.Helper()
	p, q := relationOf(before, items), relationOf(after, items)
	if !reflect.DeepEqual(p, q) {
		t.Errorf("%s and %s are different relations", formatOfNodes(before), formatOfNodes(after))
	}
	for a, x := range items {
		for b, y := range items {
			wantCompare(t, after, x, y, p.code(a, b))
		}
	}
	wantAgree(t, before, after, items, true)
}

func TestRuleConstants(t *testing.T) {
	if impl.RuleNone != 0 || !slices.Equal(allRules, []int{1, 2, 3, 4}) {
		t.Errorf("rules %d and %v", impl.RuleNone, allRules)
	}
}

func TestSubtree(t *testing.T) {
	e := reading(t, "low f0; low f1; and; not; high f2; not; then")
	for at, want := range []string{"low f0", "low f1", "low f0; low f1; and", "low f0; low f1; and; not", "high f2", "high f2; not", formatOfNodes(e)} {
		wantSubtree(t, e, at, reading(t, want))
	}
	wantSubtree(t, e, -1, nil)
	wantSubtree(t, e, 7, nil)
	wantSubtree(t, nodes(lowWish(0)), 0, nodes(lowWish(0)))
	wantSubtree(t, nodes(lowWish(0)), 1, nil)
}

func TestSubtreeOfAllShapes(t *testing.T) {
	next := wishSource(11)
	for _, shapes := range shapesByLength(impl.MaxNodes) {
		for _, shape := range shapes {
			e := fillShape(shape, next)
			starts := startsOf(e)
			for _, at := range placesAround(len(e)) {
				if at < 0 || at >= len(e) {
					wantSubtree(t, e, at, nil)
					continue
				}
				wantSubtree(t, e, at, e[starts[at]:at+1])
				if !impl.IsExpression(impl.Subtree(e, at)) {
					t.Errorf("Subtree(%s, %d) is not valid", formatOfNodes(e), at)
				}
			}
		}
	}
}

func TestApplyRule(t *testing.T) {
	for _, c := range []struct {
		before   string
		rule, at int
		after    string
	}{
		{"low f0; not; not", impl.RuleDualDual, 2, "low f0"},
		{"low f0; not; not; not", impl.RuleDualDual, 2, "low f0; not"},
		{"low f0; not; not; high f1; and", impl.RuleDualDual, 2, "low f0; high f1; and"},
		{"high f1; low f0; not; not; then", impl.RuleDualDual, 3, "high f1; low f0; then"},
		{"low f0; low f1; both; not; not; high f2; then", impl.RuleDualDual, 4, "low f0; low f1; both; high f2; then"},
		{"low f0; low f1; and; not", impl.RuleDualPush, 3, "low f0; not; low f1; not; and"},
		{"low f0; low f1; then; not", impl.RuleDualPush, 3, "low f0; not; low f1; not; then"},
		{"low f0; low f1; both; not", impl.RuleDualPush, 3, "low f0; not; low f1; not; both"},
		{"low f0; low f0; and; not", impl.RuleDualPush, 3, "low f0; not; low f0; not; and"},
		{"high f2; low f0; low f1; then; not; and", impl.RuleDualPush, 4, "high f2; low f0; not; low f1; not; then; and"},
		{"low f0; low f1; and; high f2; not; then; not", impl.RuleDualPush, 6, "low f0; low f1; and; not; high f2; not; not; then"},
		{"low f0; low f0; and", impl.RuleIdempotent, 2, "low f0"},
		{"low f0; low f0; then", impl.RuleIdempotent, 2, "low f0"},
		{"low f0; low f0; both", impl.RuleIdempotent, 2, "low f0"},
		{"among f0 1,3; among f0 1,3; and; not", impl.RuleIdempotent, 2, "among f0 1,3; not"},
		{"high f2; order f1 0>1; not; order f1 0>1; not; both; and", impl.RuleIdempotent, 5, "high f2; order f1 0>1; not; and"},
		{"low f0; low f1; then; low f0; low f1; then; and", impl.RuleIdempotent, 6, "low f0; low f1; then"},
		{"low f0; high f1; and", impl.RuleCommute, 2, "high f1; low f0; and"},
		{"low f0; high f1; both", impl.RuleCommute, 2, "high f1; low f0; both"},
		{"low f0; low f0; and", impl.RuleCommute, 2, "low f0; low f0; and"},
		{"low f0; high f1; not; low f2; then; and", impl.RuleCommute, 5, "high f1; not; low f2; then; low f0; and"},
		{"near f0 4; high f1; both; not; low f2; then", impl.RuleCommute, 2, "high f1; near f0 4; both; not; low f2; then"},
	} {
		e := reading(t, c.before)
		wantApplied(t, e, c.rule, c.at, reading(t, c.after), true)
		wantSameComparisons(t, e, reading(t, c.after), spreadItems(0, 1, 3))
	}
}

func TestApplyRuleNeedsTheForm(t *testing.T) {
	for _, c := range []struct {
		before   string
		rule, at int
	}{
		{"low f0; not; not", impl.RuleDualDual, 1},
		{"low f0; not; not", impl.RuleDualDual, 0},
		{"low f0; not", impl.RuleDualDual, 1},
		{"low f0", impl.RuleDualDual, 0},
		{"low f0; not; low f1; not; and", impl.RuleDualDual, 4},
		{"low f0; not; low f1; and; not", impl.RuleDualDual, 4},
		{"low f0; not", impl.RuleDualPush, 1},
		{"low f0; not; not", impl.RuleDualPush, 2},
		{"low f0; low f1; and", impl.RuleDualPush, 2},
		{"low f0; low f1; and; not", impl.RuleDualPush, 2},
		{"low f0; low f1; and; not; not", impl.RuleDualPush, 4},
		{"low f0; low f1; and; not; low f2; then", impl.RuleDualPush, 5},
		{"low f0; low f1; and", impl.RuleIdempotent, 2},
		{"low f0; high f0; both", impl.RuleIdempotent, 2},
		{"low f0; low f0; not; then", impl.RuleIdempotent, 3},
		{"low f0; not; low f0; both", impl.RuleIdempotent, 3},
		{"low f0; low f1; and; low f1; low f0; and; then", impl.RuleIdempotent, 6},
		{"low f0; low f1; and; low f0; low f1; both; and", impl.RuleIdempotent, 6},
		{"low f0; low f0; and; not", impl.RuleIdempotent, 3},
		{"low f0; low f0; and", impl.RuleIdempotent, 1},
		{"low f0; low f0; low f0; and; and", impl.RuleIdempotent, 4},
		{"low f0; low f1; then", impl.RuleCommute, 2},
		{"low f0; low f0; then", impl.RuleCommute, 2},
		{"low f0; low f1; and", impl.RuleCommute, 1},
		{"low f0; low f1; and; not", impl.RuleCommute, 3},
		{"low f0", impl.RuleCommute, 0},
	} {
		e := reading(t, c.before)
		wantApplied(t, e, c.rule, c.at, e, false)
	}
}

// Edge case: a dual at the very end.

func TestDualAtTheVeryEnd(t *testing.T) {
	for _, c := range []struct {
		before   string
		dualDual string
		dualPush string
		normal   string
	}{
		{"low f0; not", "", "", "low f0; not"},
		{"low f0; not; not", "low f0", "", "low f0"},
		{"low f0; not; not; not", "low f0; not", "", "low f0; not"},
		{"low f0; low f1; and; not", "", "low f0; not; low f1; not; and", "low f0; not; low f1; not; and"},
		{"low f0; low f1; then; not", "", "low f0; not; low f1; not; then", "low f0; not; low f1; not; then"},
		{"low f0; low f1; both; not", "", "low f0; not; low f1; not; both", "low f0; not; low f1; not; both"},
		{"low f0; low f0; both; not", "", "low f0; not; low f0; not; both", "low f0; not"},
		{"low f0; not; high f1; then; not", "", "low f0; not; not; high f1; not; then", "low f0; high f1; not; then"},
		{"low f0; low f1; and; not; not", "low f0; low f1; and", "", "low f0; low f1; and"},
		{"low f0; high f1; low f2; and; then; not", "", "low f0; not; high f1; low f2; and; not; then", "low f0; not; high f1; not; low f2; not; and; then"},
		{"low f0" + strings.Repeat("; not", 8), "low f0" + strings.Repeat("; not", 6), "", "low f0"},
		{"low f0; low f1; and; low f2; and; high f0; and; not", "", "low f0; low f1; and; low f2; and; not; high f0; not; and", "low f0; low f1; and; low f2; and; not; high f0; not; and"},
		{"low f0; low f1; and; low f2; and; high f0; not; and; not", "", "", "low f0; low f1; and; low f2; and; high f0; not; and; not"},
	} {
		e := reading(t, c.before)
		last := len(e) - 1
		for _, rule := range append(slices.Clone(noRules), allRules...) {
			want := map[int]string{impl.RuleDualDual: c.dualDual, impl.RuleDualPush: c.dualPush}[rule]
			if want == "" {
				wantApplied(t, e, rule, last, e, false)
				continue
			}
			wantApplied(t, e, rule, last, reading(t, want), true)
			wantSameComparisons(t, e, reading(t, want), spreadItems(0, 4, 9))
		}
		wantSubtree(t, e, last, e)
		wantSubtree(t, e, last-1, e[:last])
		wantNormal(t, e, reading(t, c.normal))
		wantSameComparisons(t, e, reading(t, c.normal), spreadItems(0, 4, 9))
	}
}

func TestDualAtTheVeryEndOfAllShapes(t *testing.T) {
	items := spreadItems(0, 2, 7)
	for length, shapes := range shapesByLength(impl.MaxNodes - 1) {
		for i, shape := range shapes {
			if length > 5 && i%23 != 0 {
				continue
			}
			inner := fillShape(shape, wishSource(int64(i)))
			e, last := nodes(inner, impl.OpDual), len(shape)
			for _, rule := range allRules {
				want, ok := rewritten(e, rule, last)
				wantApplied(t, e, rule, last, want, ok)
			}
			_, dualDual := impl.ApplyRule(e, impl.RuleDualDual, last)
			_, dualPush := impl.ApplyRule(e, impl.RuleDualPush, last)
			op := shape[last-1]
			if dualDual != (op == impl.OpDual) || dualPush != (isBinary(op) && last < 8) {
				t.Errorf("rules for the dual at the end of %s: %t and %t", formatOfNodes(e), dualDual, dualPush)
			}
			wantSameComparisons(t, e, impl.NormalizeExpression(e), items)
		}
	}
}

func TestApplyRuleAgreesWithLists(t *testing.T) {
	count := map[int]int{}
	for _, e := range rewriteSamples() {
		for _, at := range placesAround(len(e)) {
			for _, rule := range allRules {
				want, ok := rewritten(e, rule, at)
				wantApplied(t, e, rule, at, want, ok)
				if ok {
					count[rule]++
				}
			}
		}
	}
	for _, rule := range allRules {
		if count[rule] < 500 {
			t.Errorf("the rule %d was possible %d times only", rule, count[rule])
		}
	}
}

func TestApplyRuleWithoutSuchARule(t *testing.T) {
	for _, s := range []string{"low f0", "low f0; not; not", "low f0; low f1; and; not", "low f0; low f0; both", "low f0; high f1; and"} {
		e := reading(t, s)
		for _, rule := range noRules {
			for _, at := range placesAround(len(e)) {
				wantApplied(t, e, rule, at, e, false)
			}
		}
	}
}

func TestApplyRuleOutsideOfTheExpression(t *testing.T) {
	for _, s := range []string{"low f0; not; not", "low f0; low f1; and; not", "low f0; low f0; both", "low f0; high f1; and"} {
		e := reading(t, s)
		for _, rule := range allRules {
			for _, at := range []int{-1, -2, len(e), len(e) + 1, 100, math.MaxInt, math.MinInt, 1 << 32, 1<<32 + 2, -len(e)} {
				wantApplied(t, e, rule, at, e, false)
			}
		}
	}
	// The nodes behind the end are no part of the expression, though they lie in the same memory.
	row := reading(t, "low f0; low f1; and; not; not")
	wantApplied(t, row[:3], impl.RuleDualPush, 3, row[:3], false)
	wantApplied(t, row[:4], impl.RuleDualDual, 4, row[:4], false)
}

func TestApplyRuleAtTheLimit(t *testing.T) {
	four := "low f0; low f1; and; low f2; then; high f0; both"
	eight := reading(t, four+"; not")
	wantApplied(t, eight, impl.RuleDualPush, 7, reading(t, "low f0; low f1; and; low f2; then; not; high f0; not; both"), true)
	for _, s := range []string{
		"low f0; low f1; and; low f2; then; high f0; not; both; not",
		"low f0; low f1; and; low f2; then; not; high f0; not; both",
		"low f0; low f1; and; not; low f2; then; high f0; both; not",
		"low f0; low f1; and; not; not; not; not; not; not",
	} {
		e := reading(t, s)
		for at := range e {
			wantApplied(t, e, impl.RuleDualPush, at, e, false)
		}
	}
	wantApplied(t, reading(t, "low f0; not; not; low f1; and; low f2; then; not; not"), impl.RuleDualDual, 8, reading(t, "low f0; not; not; low f1; and; low f2; then"), true)
	wantApplied(t, reading(t, four+"; high f2; and"), impl.RuleCommute, 8, reading(t, "high f2; "+four+"; and"), true)
	wantApplied(t, reading(t, "low f0; low f1; and; not; low f0; low f1; and; not; then"), impl.RuleIdempotent, 8, reading(t, "low f0; low f1; and; not"), true)
}

func TestRulesForInvalidExpressions(t *testing.T) {
	long := slices.Repeat(reading(t, "low f0; not; not; low f0; and; not"), 20000)
	for _, e := range append(invalidExpressions(), long, append(reading(t, "low f0; not; not"), nodes(lowWish(0))...), nodes(lowWish(0), impl.OpDual, impl.OpDual, lowWish(3), impl.OpPareto)) {
		places := []int{-1, 0, 1, 2, 3, len(e) - 2, len(e) - 1, len(e), math.MaxInt, math.MinInt}
		for _, at := range places {
			wantSubtree(t, e, at, nil)
		}
		for _, rule := range append([]int{impl.RuleNone, -1, 5}, allRules...) {
			for _, at := range places {
				if got, ok := impl.ApplyRule(e, rule, at); ok || !sameNodes(got, e) {
					t.Errorf("ApplyRule(%v, %d, %d) = %v, %t", e, rule, at, got, ok)
				}
			}
		}
		if got := impl.NormalizeExpression(e); !sameNodes(got, e) {
			t.Errorf("NormalizeExpression(%v) = %v", e, got)
		}
		wantRewritings(t, e, nil)
	}
}

func TestIdempotentLooksAtAllFields(t *testing.T) {
	for _, pair := range [][2]impl.Wish{
		{lowWish(0), lowWish(1)}, {lowWish(0), highWish(0)}, {nearWish(0, 4), nearWish(0, 5)}, {nearWish(0, 0), lowWish(0)}, {nearWish(1, 9), highWish(1)},
		{amongWish(0, 1, 3), amongWish(0, 1)}, {amongWish(0, 1, 3), amongWish(0, 1, 4)}, {amongWish(0, 1, 3), amongWish(2, 1, 3)},
		{orderWish(0, pairs(0, 1)), orderWish(0, pairs(0, 2))}, {orderWish(0, pairs(0, 1)), orderWish(0, pairs(2, 1))}, {orderWish(0, pairs(0, 1)), orderWish(0, nil)},
		{orderWish(0, pairs(0, 1, 1, 2)), orderWish(0, pairs(1, 2, 0, 1))}, {orderWish(0, pairs(0, 1)), orderWish(0, pairs(0, 1, 0, 1))},
	} {
		for _, op := range []int{impl.OpPareto, impl.OpPrior, impl.OpMeet} {
			v, w := pair[0], pair[1]
			for _, e := range [][]impl.Node{nodes(v, w, op), nodes(w, v, op), nodes(v, impl.OpDual, w, impl.OpDual, op), nodes(v, lowWish(2), impl.OpPrior, w, lowWish(2), impl.OpPrior, op), nodes(lowWish(2), v, impl.OpPrior, lowWish(2), w, impl.OpPrior, op)} {
				wantApplied(t, e, impl.RuleIdempotent, len(e)-1, e, false)
				wantNormal(t, e, e)
			}
			wantApplied(t, nodes(v, copyOfWish(v), op), impl.RuleIdempotent, 2, nodes(v), true)
			wantApplied(t, nodes(w, copyOfWish(w), op), impl.RuleIdempotent, 2, nodes(w), true)
		}
	}
}

func TestRulesTakeEmptyListsForNil(t *testing.T) {
	empty := impl.Wish{List: []int{}, Pairs: []impl.Pair{}}
	behind := impl.Wish{List: []int{1, 2}[:0], Pairs: pairs(0, 1)[:0]}
	for _, w := range []impl.Wish{empty, behind} {
		wantApplied(t, nodes(w, lowWish(0), impl.OpPrior), impl.RuleIdempotent, 2, nodes(lowWish(0)), true)
		wantApplied(t, []impl.Node{{Wish: lowWish(0)}, {Op: impl.OpDual, Wish: w}, {Op: impl.OpDual}}, impl.RuleDualDual, 2, nodes(lowWish(0)), true)
		e := []impl.Node{{Wish: lowWish(0)}, {Wish: lowWish(1)}, {Op: impl.OpMeet, Wish: w}, {Op: impl.OpDual, Wish: w}}
		wantApplied(t, e, impl.RuleDualPush, 3, reading(t, "low f0; not; low f1; not; both"), true)
		wantApplied(t, e, impl.RuleCommute, 2, reading(t, "low f1; low f0; both; not"), true)
	}
}

func TestRewritingsPreserveComparisons(t *testing.T) {
	items := append(spreadItems(0, 3), item(50, 9, 5, 1), item(51, 1, 2, 9), item(52, 8, 7, 6), item(53, 5, 9, 7))
	for i, e := range rewriteSamples() {
		if len(e) > 6 && i%5 != 0 {
			continue
		}
		for at := range e {
			for _, rule := range allRules {
				if after, ok := impl.ApplyRule(e, rule, at); ok {
					wantSameComparisons(t, e, after, items)
				}
			}
		}
		for _, r := range impl.Rewritings(e) {
			wantSameComparisons(t, e, r.After, items)
		}
		wantSameComparisons(t, e, impl.NormalizeExpression(e), items)
	}
}

func TestRewritingsPreserveComparisonsOfAllWishes(t *testing.T) {
	var items []impl.Item
	for a := range valueCount {
		for _, b := range []int{0, 1, 2, 4, 9} {
			items = append(items, item(len(items), 5, a, b))
		}
	}
	for i, w := range fewWishes(1) {
		v := fewWishes(2)[i*7%len(fewWishes(2))]
		for _, op := range []int{impl.OpPareto, impl.OpPrior, impl.OpMeet} {
			for _, e := range [][]impl.Node{nodes(w, v, op, impl.OpDual), nodes(w, w, op), nodes(v, w, impl.OpDual, impl.OpDual, op)} {
				for _, r := range impl.Rewritings(e) {
					wantAgree(t, e, r.After, items, true)
				}
				wantAgree(t, e, impl.NormalizeExpression(e), items, true)
			}
		}
	}
}

func TestNormalizeExpression(t *testing.T) {
	for before, want := range map[string]string{
		"low f0":                                           "low f0",
		"low f0; not":                                      "low f0; not",
		"low f0; not; not; low f0; and":                    "low f0",
		"low f0; high f1; and":                             "low f0; high f1; and",
		"high f1; low f0; both":                            "high f1; low f0; both",
		"low f0; low f0; and; low f0; then":                "low f0",
		"low f0; low f0; and; low f1; then":                "low f0; low f1; then",
		"low f0; low f0; low f0; and; both":                "low f0",
		"low f0; low f0; and; not; not":                    "low f0",
		"low f0; not; low f1; not; then; not":              "low f0; low f1; then",
		"low f0; low f0; not; not; then; low f0; and":      "low f0",
		"low f0; low f1; and; low f0; low f1; and; both":   "low f0; low f1; and",
		"low f0; low f1; and; low f1; low f0; and; both":   "low f0; low f1; and; low f1; low f0; and; both",
		"low f0; low f1; and; not; low f0; not; then; not": "low f0; not; low f1; not; and; low f0; not; then; not",
	} {
		wantNormal(t, reading(t, before), reading(t, want))
	}
}

func TestNormalizeTakesTheFirstNode(t *testing.T) {
	// Pushing the inner dual first fills the expression, so that the dual of the same operator has to stay in the end.
	for _, word := range []string{"and", "then", "both"} {
		e := reading(t, "low f0; low f1; and; not; high f2; "+word+"; not")
		wantNormal(t, e, reading(t, "low f0; not; low f1; not; and; not; high f2; not; "+word))
	}
	// The equal operands go before the dual behind them is pushed, and it then stands behind a wish.
	wantNormal(t, reading(t, "low f0; low f0; both; not; low f1; and"), reading(t, "low f0; not; low f1; and"))
	// The dual before the equal operands is pushed first.
	wantNormal(t, reading(t, "low f0; low f1; and; not; high f2; high f2; then; both"), reading(t, "low f0; not; low f1; not; and; high f2; both"))
}

func TestNormalizeAtTheLimit(t *testing.T) {
	for before, want := range map[string]string{
		"low f0; low f1; and; low f2; and; high f0; not; and; not":       "low f0; low f1; and; low f2; and; high f0; not; and; not",
		"low f0; low f1; and; low f2; and; high f0; and; not":            "low f0; low f1; and; low f2; and; not; high f0; not; and",
		"low f0; low f1; and; low f2; and; not; not; not":                "low f0; not; low f1; not; and; low f2; not; and",
		"low f0; low f1; and; not; not; not; not; not; not":              "low f0; low f1; and",
		"low f0; low f1; and; low f2; then; high f2; both; high f1; and": "low f0; low f1; and; low f2; then; high f2; both; high f1; and",
		"low f0; low f0; and; low f0; then; low f0; both; low f0; and":   "low f0",
		"low f0; low f1; and; low f2; and; high f0; high f0; and; both":  "low f0; low f1; and; low f2; and; high f0; both",
		"low f0; low f1; and; not; low f2; low f2; and; both; not":       "low f0; not; low f1; not; and; not; low f2; not; both",
	} {
		wantNormal(t, reading(t, before), reading(t, want))
	}
}

func TestNormalizeAgreesWithLists(t *testing.T) {
	for _, e := range rewriteSamples() {
		want := normalOf(e)
		wantNormal(t, e, want)
		wantNormal(t, want, want)
		for at := range want {
			for _, rule := range []int{impl.RuleDualDual, impl.RuleDualPush, impl.RuleIdempotent} {
				wantApplied(t, want, rule, at, want, false)
			}
		}
	}
}

func TestRewritings(t *testing.T) {
	type step struct {
		rule, at int
		after    string
	}
	for before, steps := range map[string][]step{
		"low f0":                nil,
		"low f0; not":           nil,
		"low f0; high f1; then": nil,
		"low f0; low f1; and; not": {
			{impl.RuleCommute, 2, "low f1; low f0; and; not"},
			{impl.RuleDualPush, 3, "low f0; not; low f1; not; and"},
		},
		"low f0; low f0; both": {
			{impl.RuleIdempotent, 2, "low f0"},
			{impl.RuleCommute, 2, "low f0; low f0; both"},
		},
		"low f0; low f0; then; not; not": {
			{impl.RuleIdempotent, 2, "low f0; not; not"},
			{impl.RuleDualPush, 3, "low f0; not; low f0; not; then; not"},
			{impl.RuleDualDual, 4, "low f0; low f0; then"},
		},
		"low f0; not; not; not": {
			{impl.RuleDualDual, 2, "low f0; not"},
			{impl.RuleDualDual, 3, "low f0; not"},
		},
		"low f0; low f1; and; low f2; both; high f1; and; high f2; both": {
			{impl.RuleCommute, 2, "low f1; low f0; and; low f2; both; high f1; and; high f2; both"},
			{impl.RuleCommute, 4, "low f2; low f0; low f1; and; both; high f1; and; high f2; both"},
			{impl.RuleCommute, 6, "high f1; low f0; low f1; and; low f2; both; and; high f2; both"},
			{impl.RuleCommute, 8, "high f2; low f0; low f1; and; low f2; both; high f1; and; both"},
		},
		"low f0; low f1; then; not; low f2; then; high f1; not; then": nil,
	} {
		var want []impl.Rewriting
		for _, s := range steps {
			want = append(want, impl.Rewriting{Rule: s.rule, At: s.at, After: reading(t, s.after)})
		}
		wantRewritings(t, reading(t, before), want)
	}
}

func TestRewritingsAgreeWithLists(t *testing.T) {
	for _, e := range rewriteSamples() {
		wantRewritings(t, e, allRewritten(e))
	}
}

func TestAgreeOn(t *testing.T) {
	a, b, c := item(1, 2, 5, 0), item(2, 3, 3, 0), item(3, 2, 5, 9)
	low0, then, and := reading(t, "low f0"), reading(t, "low f0; low f1; then"), reading(t, "low f0; low f1; and")
	for _, test := range []struct {
		p, q  []impl.Node
		items []impl.Item
		want  bool
	}{
		{low0, then, []impl.Item{a, b, c}, true},
		{low0, and, []impl.Item{a, b, c}, false},
		{then, and, []impl.Item{a, b}, false},
		{then, and, []impl.Item{b, a}, false},
		{then, and, []impl.Item{a, c}, true},
		{then, and, []impl.Item{a, c, b}, false},
		{then, and, []impl.Item{b}, true},
		{then, and, nil, true},
		{low0, reading(t, "high f0"), []impl.Item{a, c}, true},
		{low0, reading(t, "high f0"), []impl.Item{a, b}, false},
		{low0, reading(t, "low f2"), []impl.Item{a, b}, false},
		{reading(t, "order f2 9>0"), reading(t, "high f2"), []impl.Item{a, b, c}, true},
		{reading(t, "order f0 none"), reading(t, "low f0; high f0; and"), []impl.Item{a, b, c}, true},
		{reading(t, "low f0; low f1; both"), and, []impl.Item{a, b, c}, true},
		{reading(t, "low f1; low f0; then"), then, []impl.Item{a, b, c}, false},
		{then, then, []impl.Item{a, b, c}, true},
	} {
		wantAgree(t, test.p, test.q, test.items, test.want)
	}
}

func TestAgreeOnLooksAtAllPairs(t *testing.T) {
	// The expressions differ for the values 3 and 4 of the field 1 only.
	p, q := nodes(orderWish(1, nil)), nodes(orderWish(1, pairs(3, 4)))
	for count := 2; count < 20; count++ {
		for first := range count {
			for second := range count {
				items := validItems(count)
				for i := range items {
					items[i].Values[1] = 5 + i%5
				}
				items[second].Values[1] = 4
				wantAgree(t, p, q, items, true)
				items[first].Values[1] = 3
				wantAgree(t, p, q, items, first == second)
			}
		}
	}
}

func TestAgreeOnComparesEveryPairOfExpressions(t *testing.T) {
	items := append(spreadItems(2, 3), item(50, 9, 5, 1), item(51, 1, 2, 9))
	all := someExpressions(1)[:60]
	for _, w := range fewWishes(0)[:6] {
		all = append(all, nodes(w))
	}
	for _, a := range all {
		for _, b := range all {
			wantAgree(t, a, b, items, reflect.DeepEqual(relationOf(a, items), relationOf(b, items)))
		}
	}
}

func TestAgreeOnOfInvalidItems(t *testing.T) {
	low, high := reading(t, "low f0"), reading(t, "high f0")
	wantAgree(t, low, high, invalidItems(), true)
	for _, x := range invalidItems() {
		wantAgree(t, low, high, []impl.Item{x}, true)
		wantAgree(t, low, high, []impl.Item{x, item(1, 2, 3, 4), x}, true)
		wantAgree(t, low, high, []impl.Item{item(1, 2, 3, 4), x, item(2, 3, 3, 4)}, false)
	}
	// The items need no order, and there may be more than MaxItems, also with the same Id.
	many := slices.Repeat([]impl.Item{item(9, 4, 0, 0), item(3, 4, 1, 1)}, 20)
	wantAgree(t, low, high, many, true)
	wantAgree(t, low, high, append(many, item(3, 5, 0, 0)), false)
}

func TestAgreeOnOfInvalidExpressions(t *testing.T) {
	low, x, y := reading(t, "low f0"), item(1, 2, 3, 4), item(2, 4, 3, 2)
	invalid := invalidExpressions()
	for i, e := range invalid {
		// An invalid expression leaves all pairs Unrelated, even an item and itself.
		other := invalid[(i*7+1)%len(invalid)]
		wantAgree(t, e, other, []impl.Item{x, y}, true)
		wantAgree(t, e, low, []impl.Item{x}, false)
		wantAgree(t, e, low, []impl.Item{x, y}, false)
		wantAgree(t, e, low, nil, true)
		wantAgree(t, e, low, []impl.Item{{}, {Id: 200, Values: []int{1, 2, 3}}}, true)
		wantAgree(t, e, reading(t, "order f0 none"), []impl.Item{x, y}, false)
	}
}

// overwriteNodes changes all that an expression holds.
func overwriteNodes(e []impl.Node) {
	for i := range e {
		overwriteLists(e[i].Wish)
		e[i] = impl.Node{Op: 77, Wish: highWish(2)}
	}
}

// sharingSamples returns expressions of wishes with lists, for which all rules are possible, and invalid ones.
func sharingSamples() [][]impl.Node {
	among, order := amongWish(0, 1, 3), orderWish(1, pairs(0, 1, 1, 4))
	roomy := impl.Wish{List: []int{7, 8}[:0], Pairs: pairs(5, 6)[:0]}
	return [][]impl.Node{
		nodes(among, order, impl.OpPareto, impl.OpDual),
		nodes(among, impl.OpDual, impl.OpDual, among, impl.OpMeet, impl.OpDual),
		nodes(among, among, impl.OpPareto, order, order, impl.OpMeet, impl.OpPrior, impl.OpDual),
		{{Wish: among}, {Wish: order}, {Op: impl.OpPareto, Wish: roomy}, {Op: impl.OpDual, Wish: roomy}, {Op: impl.OpDual, Wish: roomy}},
		nodes(among), nodes(order, order), nodes(among, amongWish(1, 4, 2), impl.OpPareto), nodes(impl.OpDual, among),
	}
}

func TestRewritingResultsShareNoMemory(t *testing.T) {
	for _, e := range sharingSamples() {
		before := copyOfNodes(e)
		for at := -1; at <= len(e); at++ {
			results := [][]impl.Node{impl.Subtree(e, at), impl.NormalizeExpression(e)}
			for _, rule := range append([]int{impl.RuleNone}, allRules...) {
				after, _ := impl.ApplyRule(e, rule, at)
				results = append(results, after)
			}
			for _, r := range results {
				wantOwnNodes(t, r)
				overwriteNodes(r)
				overwriteNodes(r[len(r):cap(r)])
			}
			if !reflect.DeepEqual(e, before) {
				t.Fatalf("with its results, %v became %v", before, e)
			}
		}
	}
}

// wantOwnNodes checks that no two wishes of an expression share memory, by changing one after the other, and restores them.
func wantOwnNodes(t *testing.T, e []impl.Node) {
	t.Helper()
	before := copyOfNodes(e)
	for i := range e {
		overwriteLists(e[i].Wish)
		overwriteLists(impl.Wish{List: e[i].Wish.List[len(e[i].Wish.List):cap(e[i].Wish.List)], Pairs: e[i].Wish.Pairs[len(e[i].Wish.Pairs):cap(e[i].Wish.Pairs)]})
		if !sameNodes(e[i+1:], before[i+1:]) || !sameNodes(e[:i], before[:i]) {
			t.Errorf("with the node %d, others of %v became %v", i, before, e)
		}
		copy(e[i].Wish.List, before[i].Wish.List)
		copy(e[i].Wish.Pairs, before[i].Wish.Pairs)
	}
}

func TestRewritingsShareNoMemory(t *testing.T) {
	for _, e := range sharingSamples() {
		before, all := copyOfNodes(e), impl.Rewritings(e)
		for i, r := range all {
			wantOwnNodes(t, r.After)
			var others []impl.Rewriting
			for _, o := range all[i+1:] {
				others = append(others, impl.Rewriting{Rule: o.Rule, At: o.At, After: copyOfNodes(o.After)})
			}
			overwriteNodes(r.After)
			overwriteNodes(r.After[len(r.After):cap(r.After)])
			if !slices.EqualFunc(all[i+1:], others, sameRewriting) || !reflect.DeepEqual(e, before) {
				t.Errorf("with the result %d, others of %v became %v", i, before, all[i+1:])
			}
		}
	}
}

func TestRewritingDoesNotModifyArguments(t *testing.T) {
	row := nodes(amongWish(0, 1, 3), amongWish(0, 1, 3), impl.OpPareto, impl.OpDual, impl.OpDual, orderWish(1, pairs(2, 1, 1, 0)), impl.OpMeet, impl.OpDual, nearWish(0, 12), -7, amongWish(1, 4, 4, 2))
	items := []impl.Item{item(1, 2, 3, 4), item(2, 4, 3, 2), item(0, 9, 9)}
	wantRow, wantItems := copyOfNodes(row), copyOfItems(items)
	for from := range len(row) + 1 {
		for to := from; to <= len(row); to++ {
			e := row[from:to]
			for at := -1; at <= len(e); at++ {
				impl.Subtree(e, at)
				for rule := range 6 {
					impl.ApplyRule(e, rule, at)
				}
			}
			impl.NormalizeExpression(e)
			impl.Rewritings(e)
			impl.AgreeOn(e, row[:3], items)
			impl.AgreeOn(row[:8], e, items[:2])
		}
	}
	if !reflect.DeepEqual(row, wantRow) || !reflect.DeepEqual(items, wantItems) {
		t.Errorf("the arguments became %v and %v", row, items)
	}
}

func TestRewritingKeepsNoState(t *testing.T) {
	e := nodes(amongWish(0, 1), amongWish(0, 2), impl.OpPareto, impl.OpDual, impl.OpDual)
	for i := range 4 {
		// The same memory holds another expression in every second round.
		e[1].Wish.List[0] = 1 + i%2
		want := [][]impl.Node{nodes(amongWish(0, 1)), nodes(amongWish(0, 1), amongWish(0, 2), impl.OpPareto)}[i%2]
		wantNormal(t, e, want)
		wantRewritings(t, e, allRewritten(e))
		wantSubtree(t, e, 1, e[1:2])
		wantApplied(t, e, impl.RuleDualDual, 4, e[:3], true)
		wantAgree(t, e, nodes(amongWish(0, 1)), []impl.Item{item(1, 1, 0, 0), item(2, 2, 0, 0)}, i%2 == 0)
	}
}
