package tests

// Promise 8: voting rules agree with the votes of the group.

import (
	"math"
	"math/rand"
	"reflect"
	"runtime"
	"slices"
	"strings"
	"testing"

	"loop.example/g01987/impl"
)

// noVotingRules are just beyond the limits and far from them.
var noVotingRules = []int{-1, -2, 3, 4, 100, 1 << 8, 1 << 32, 1<<32 + 1, 1<<32 + 2, math.MaxInt, math.MinInt}

// election is what chapter 12 says of items and voters. All that is not a list of Ids belongs to the items by their indices.
type election struct {
	// votes are those for the first item against the second one.
	votes           [][]int
	condorcet       int
	borda, approval []int
	unanimous       []int
	// worst is the greatest rank of an item among those that voters give it.
	worst []int
}

// electionOf finds the election for valid arguments without the program.
func electionOf(l []impl.Item, g [][]impl.Node) election {
	var relations []relation
	e := election{condorcet: -1, approval: make([]int, len(l)), worst: make([]int, len(l))}
	for _, voter := range g {
		relations = append(relations, relationOf(voter, l))
		a := answersOf(l, voter)
		for i, x := range l {
			e.worst[i] = max(e.worst[i], len(a.better[i]))
			if slices.Contains(a.best, x.Id) {
				e.approval[i]++
			}
		}
	}
	for i, x := range l {
		row, lead, won := make([]int, len(l)), 0, 0
		for j := range l {
			against := 0
			row[j], against = votesOf(relations, i, j), votesOf(relations, j, i)
			lead += row[j] - against
			if row[j] > against {
				won++
			}
		}
		if won == len(l)-1 {
			e.condorcet = x.Id
		}
		e.votes, e.borda = append(e.votes, row), append(e.borda, lead)
		if !slices.ContainsFunc(indicesOf(l), func(j int) bool { return e.votes[i][j] == 0 && nobodyMinds(relations, j, i) }) {
			e.unanimous = append(e.unanimous, x.Id)
		}
	}
	return e
}

func votesOf(relations []relation, i, j int) int {
	count := 0
	for _, r := range relations {
		if r.better[i][j] {
			count++
		}
	}
	return count
}

// nobodyMinds reports whether the item j takes the place of the item i without a loss for any voter, and with a gain for one.
func nobodyMinds(relations []relation, j, i int) bool {
	gains := false
	for _, r := range relations {
		if !r.better[j][i] && !r.equal[j][i] {
			return false
		}
		gains = gains || r.better[j][i]
	}
	return gains
}

// firstWithMost returns the Id of the first item with the greatest score, or -1 without items.
func firstWithMost(l []impl.Item, scores []int) int {
	most := -1
	for i := range l {
		if most < 0 || scores[i] > scores[most] {
			most = i
		}
	}
	if most < 0 {
		return -1
	}
	return l[most].Id
}

func formatOfGroup(g [][]impl.Node) string {
	var voters []string
	for _, e := range g {
		voters = append(voters, formatOfNodes(e))
	}
	return strings.Join(voters, " | ")
}

// group reads voters from their string formats.
func group(t *testing.T, voters ...string) [][]impl.Node {
	t.Helper()
	var g [][]impl.Node
	for _, s := range voters {
		g = append(g, reading(t, s))
	}
	return g
}

// ranking returns a voter who prefers each of these values of the field 0 to the next one.
func ranking(values ...int) []impl.Node {
	var l []impl.Pair
	for i := range len(values) - 1 {
		l = append(l, impl.Pair{Better: values[i], Worse: values[i+1]})
	}
	return nodes(orderWish(0, l))
}

// opposites returns a voter and one who prefers the opposite.
func opposites(e []impl.Node) [][]impl.Node {
	return [][]impl.Node{e, nodes(e, impl.OpDual)}
}

func copyOfGroup(g [][]impl.Node) [][]impl.Node {
	var c [][]impl.Node
	for _, e := range g {
		c = append(c, copyOfNodes(e))
	}
	return c
}

func wantVoters(t *testing.T, g [][]impl.Node, want bool) {
	t.Helper()
	if got := impl.AreVoters(g); got != want {
		t.Errorf("AreVoters(%s) = %t", formatOfGroup(g), got)
	}
}

func wantVotes(t *testing.T, l []impl.Item, g [][]impl.Node, a, b, want int) {
	t.Helper()
	if got := impl.VotesFor(l, g, a, b); got != want {
		t.Errorf("VotesFor %d against %d of %v by %s = %d, want %d", a, b, l, formatOfGroup(g), got, want)
	}
}

func wantCondorcet(t *testing.T, l []impl.Item, g [][]impl.Node, want int) {
	t.Helper()
	if got := impl.CondorcetOf(l, g); got != want {
		t.Errorf("CondorcetOf %v by %s = %d, want %d", l, formatOfGroup(g), got, want)
	}
	wantChoice(t, l, g, impl.ByCondorcet, want)
}

func wantBorda(t *testing.T, l []impl.Item, g [][]impl.Node, want ...int) {
	t.Helper()
	if got := impl.BordaScores(l, g); !slices.Equal(got, want) {
		t.Errorf("BordaScores of %v by %s = %v, want %v", l, formatOfGroup(g), got, want)
	}
}

func wantApproval(t *testing.T, l []impl.Item, g [][]impl.Node, want ...int) {
	t.Helper()
	if got := impl.ApprovalScores(l, g); !slices.Equal(got, want) {
		t.Errorf("ApprovalScores of %v by %s = %v, want %v", l, formatOfGroup(g), got, want)
	}
}

func wantUnanimous(t *testing.T, l []impl.Item, g [][]impl.Node, want ...int) {
	t.Helper()
	if got := impl.UnanimousBest(l, g); !slices.Equal(got, want) {
		t.Errorf("UnanimousBest of %v by %s = %v, want %v", l, formatOfGroup(g), got, want)
	}
}

func wantFree(t *testing.T, l []impl.Item, g [][]impl.Node, limit int, want ...int) {
	t.Helper()
	if got := impl.VetoFree(l, g, limit); !slices.Equal(got, want) {
		t.Errorf("VetoFree(%d) of %v by %s = %v, want %v", limit, l, formatOfGroup(g), got, want)
	}
}

func wantChoice(t *testing.T, l []impl.Item, g [][]impl.Node, rule, want int) {
	t.Helper()
	if got := impl.GroupChoice(l, g, rule); got != want {
		t.Errorf("GroupChoice(%d) of %v by %s = %d, want %d", rule, l, formatOfGroup(g), got, want)
	}
}

// wantElection checks all functions for valid arguments against what is found without the program.
func wantElection(t *testing.T, l []impl.Item, g [][]impl.Node) {
	t.Helper()
	wantVoters(t, g, true)
	want := electionOf(l, g)
	for i, x := range l {
		for j, y := range l {
			wantVotes(t, l, g, x.Id, y.Id, want.votes[i][j])
		}
	}
	wantCondorcet(t, l, g, want.condorcet)
	wantBorda(t, l, g, want.borda...)
	wantApproval(t, l, g, want.approval...)
	wantUnanimous(t, l, g, want.unanimous...)
	wantChoice(t, l, g, impl.ByBorda, firstWithMost(l, want.borda))
	wantChoice(t, l, g, impl.ByApproval, firstWithMost(l, want.approval))
	for _, limit := range sizesOfBands() {
		var free []int
		for i, x := range l {
			if want.worst[i] <= limit {
				free = append(free, x.Id)
			}
		}
		wantFree(t, l, g, limit, free...)
	}
}

// wantNoElection checks the fixed results of items or voters that are not valid.
func wantNoElection(t *testing.T, l []impl.Item, g [][]impl.Node) {
	t.Helper()
	ids := append([]int{-1, 0, 1, 4, 99, 100}, impl.IdsOf(l[:min(len(l), 5)])...)
	for _, a := range ids {
		for _, b := range ids {
			wantVotes(t, l, g, a, b, 0)
		}
	}
	wantCondorcet(t, l, g, -1)
	wantBorda(t, l, g)
	wantApproval(t, l, g)
	wantUnanimous(t, l, g)
	for _, limit := range []int{math.MinInt, -1, 0, 1, 2, 16, 17, math.MaxInt} {
		wantFree(t, l, g, limit)
	}
	for _, rule := range append([]int{impl.ByBorda, impl.ByApproval}, noVotingRules[:3]...) {
		wantChoice(t, l, g, rule, -1)
	}
}

// threeVoters returns voters for fiveItems, of whom each one finds another item best.
func threeVoters(t *testing.T) [][]impl.Node {
	t.Helper()
	return group(t, "low f0", "low f1", "near f0 4")
}

// randomGroup draws voters from some expressions.
func randomGroup(source *rand.Rand, all [][]impl.Node, count int) [][]impl.Node {
	var g [][]impl.Node
	for range count {
		g = append(g, all[source.Intn(len(all))])
	}
	return g
}

func TestAreVoters(t *testing.T) {
	wantVoters(t, group(t, "low f0"), true)
	wantVoters(t, group(t, "low f0", "low f0"), true)
	wantVoters(t, group(t, "low f0", "high f1; not", "near f2 4", "among f0 1,3", "order f1 0>1; low f2; then"), true)
	for _, e := range someExpressions(1) {
		wantVoters(t, [][]impl.Node{e}, true)
		wantVoters(t, [][]impl.Node{towerOrder(), e, rivalOrder()}, true)
	}
	wantVoters(t, nil, false)
	wantVoters(t, [][]impl.Node{}, false)
	wantVoters(t, [][]impl.Node{nil}, false)
	wantVoters(t, [][]impl.Node{{}}, false)
}

func TestVotesFor(t *testing.T) {
	g := threeVoters(t)
	for _, c := range []struct{ a, b, votes, against int }{
		{1, 2, 1, 2}, {1, 3, 1, 2}, {1, 4, 1, 2}, {1, 5, 1, 1},
		{2, 3, 1, 1}, {2, 4, 2, 1}, {2, 5, 1, 0},
		{3, 4, 1, 2}, {3, 5, 1, 1}, {4, 5, 2, 1},
	} {
		wantVotes(t, fiveItems(), g, c.a, c.b, c.votes)
		wantVotes(t, fiveItems(), g, c.b, c.a, c.against)
	}
	for id := 1; id <= 5; id++ {
		wantVotes(t, fiveItems(), g, id, id, 0)
	}
}

func TestVotesOfVotersWhoAreNotFor(t *testing.T) {
	l := numbered(0, 1)
	// A voter for whom two items are equal or unrelated votes for none of them.
	for votes, g := range [][][]impl.Node{
		group(t, "low f2", "high f0", "order f0 none", "among f0 0,1", "order f0 1>0,0>2"),
		group(t, "low f2", "high f0", "order f0 none", "low f0", "low f0; high f0; and"),
		group(t, "low f0", "low f0", "low f2", "high f0", "low f0; not"),
		group(t, "low f0", "among f0 0", "low f2; low f0; then", "low f1", "high f0"),
		group(t, "low f0", "near f0 0", "low f2; low f0; and", "order f0 0>1", "order f1 0>1"),
		group(t, "low f0", "low f0", "low f0", "low f0", "low f0"),
	} {
		wantVotes(t, l, g, 1, 2, votes)
		wantElection(t, l, g)
	}
}

func TestCondorcetOf(t *testing.T) {
	l := numbered(0, 1, 2)
	up, round, down := ranking(0, 1, 2), ranking(1, 2, 0), ranking(2, 0, 1)
	wantCondorcet(t, l, [][]impl.Node{up}, 1)
	wantCondorcet(t, l, [][]impl.Node{round}, 2)
	wantCondorcet(t, l, [][]impl.Node{down}, 3)
	wantCondorcet(t, l, [][]impl.Node{round, up, up}, 1)
	wantCondorcet(t, l, [][]impl.Node{round, down, round}, 2)
	// In a circle, each item loses against another one. A tie is not enough either.
	wantCondorcet(t, l, [][]impl.Node{up, round, down}, -1)
	wantCondorcet(t, l, [][]impl.Node{up, round, down, up}, -1)
	wantCondorcet(t, l, [][]impl.Node{round, down, round, up}, -1)
	wantCondorcet(t, l, [][]impl.Node{up, round, down, up, up}, 1)
	// The last item may win, and one that is best for nobody.
	wantCondorcet(t, numbered(0, 1, 2, 3), [][]impl.Node{ranking(0, 3, 1, 2), ranking(1, 3, 2, 0), ranking(2, 3, 0, 1)}, 4)
	wantCondorcet(t, fiveItems(), threeVoters(t), -1)
	wantCondorcet(t, fiveItems(), group(t, "low f1", "near f0 3", "high f0"), 3)
}

func TestCondorcetNeedsNoMajority(t *testing.T) {
	l := numbered(0, 1, 2)
	// One vote wins against none.
	wantCondorcet(t, l, group(t, "low f2", "low f1", "order f0 none", "high f0", "order f0 9>8"), 3)
	// Against every other one: without a vote between two, there is no winner.
	wantCondorcet(t, l, group(t, "low f2", "order f0 2>0"), -1)
	wantCondorcet(t, l, group(t, "order f0 2>1", "order f0 2>0"), 3)
	wantCondorcet(t, l, group(t, "order f0 2>1", "order f0 2>0", "order f0 1>2"), -1)
	// Equal items are in each other's way.
	wantCondorcet(t, twins(2, 1, 2, 3), group(t, "low f0"), -1)
	wantCondorcet(t, numbered(0, 0, 1), group(t, "low f0"), -1)
	wantCondorcet(t, numbered(0, 1, 1), group(t, "low f0"), 1)
}

func TestOneItemAlone(t *testing.T) {
	for _, e := range someExpressions(1) {
		l, g := []impl.Item{item(7, 3, 0, 9)}, [][]impl.Node{e, rivalOrder()}
		wantCondorcet(t, l, g, 7)
		wantBorda(t, l, g, 0)
		wantApproval(t, l, g, 2)
		wantUnanimous(t, l, g, 7)
		wantFree(t, l, g, 0, 7)
		wantFree(t, l, g, -1)
		for rule := impl.ByCondorcet; rule <= impl.ByApproval; rule++ {
			wantChoice(t, l, g, rule, 7)
			wantChoice(t, nil, g, rule, -1)
			wantChoice(t, []impl.Item{}, g, rule, -1)
		}
	}
}

func TestScores(t *testing.T) {
	g := threeVoters(t)
	wantBorda(t, fiveItems(), g, -3, 3, 0, 2, -2)
	wantBorda(t, fiveItems(), g[:1], 4, 1, -4, -2, 1)
	wantBorda(t, fiveItems(), g[1:2], -3, 2, 4, 0, -3)
	wantBorda(t, fiveItems(), g[2:], -4, 0, 0, 4, 0)
	wantApproval(t, fiveItems(), g, 1, 0, 1, 1, 0)
	wantApproval(t, fiveItems(), g[:2], 1, 0, 1, 0, 0)
	wantApproval(t, fiveItems(), group(t, "among f0 3,5", "low f0; low f1; and", "low f2", "high f1"), 3, 3, 3, 1, 3)
	// A voter who is there twice counts twice.
	wantBorda(t, fiveItems(), [][]impl.Node{g[0], g[1], g[0]}, 5, 4, -4, -4, -1)
	wantApproval(t, fiveItems(), [][]impl.Node{g[0], g[1], g[0]}, 2, 0, 1, 0, 0)
	// Without any order there are no points, but all items are best.
	wantBorda(t, twins(3, 1, 2, 3), g, 0, 0, 0)
	wantApproval(t, twins(3, 1, 2, 3), g, 3, 3, 3)
}

func TestUnanimousBest(t *testing.T) {
	wantUnanimous(t, fiveItems(), threeVoters(t), 1, 2, 3, 4)
	wantUnanimous(t, fiveItems(), threeVoters(t)[:2], 1, 2, 3)
	l := numbered(0, 1)
	for _, c := range []struct {
		first, second string
		want          []int
	}{
		{"low f0", "low f2", []int{1}},
		{"low f0", "low f0", []int{1}},
		{"low f0", "among f0 0", []int{1}},
		{"high f0", "low f2; high f0; then", []int{2}},
		// If one voter finds the other item better or both unrelated, this is not unanimous.
		{"low f0", "high f0", []int{1, 2}},
		{"low f0", "order f0 none", []int{1, 2}},
		{"low f0", "low f0; high f0; and", []int{1, 2}},
		{"low f2", "order f0 none", []int{1, 2}},
		// What is equal for all is not better.
		{"low f2", "high f1", []int{1, 2}},
	} {
		for _, names := range [][]string{{c.first, c.second}, {c.second, c.first}, {c.first, c.second, c.first}, {c.second, c.first, c.first, "low f1", "high f2"}} {
			wantUnanimous(t, l, group(t, names...), c.want...)
		}
	}
}

func TestUnanimousBestIsThatOfOneItemAgainstAnother(t *testing.T) {
	// For each voter another item is better than 3, but none is for both.
	l := []impl.Item{item(1, 0, 5, 0), item(2, 5, 0, 0), item(3, 1, 1, 0)}
	g := group(t, "low f0", "low f1")
	wantUnanimous(t, l, g, 1, 2, 3)
	// An item that is not among them itself is enough.
	l = append(l, item(4, 1, 2, 0), item(5, 2, 2, 0))
	wantUnanimous(t, l, g, 1, 2, 3)
	wantUnanimous(t, l[3:], g, 4)
}

func TestVetoFree(t *testing.T) {
	for limit, want := range [][]int{{}, {2}, {2}, {1, 2, 4, 5}, {1, 2, 3, 4, 5}, {1, 2, 3, 4, 5}} {
		wantFree(t, fiveItems(), threeVoters(t)[:2], limit, want...)
	}
	for limit, want := range [][]int{{}, {2}, {2}, {2, 4, 5}, {1, 2, 3, 4, 5}} {
		wantFree(t, fiveItems(), threeVoters(t), limit, want...)
	}
	// The veto of any voter counts, whichever place the voter has.
	for at := range impl.MaxVoters {
		g := slices.Repeat(group(t, "low f2"), impl.MaxVoters)
		g[at] = reading(t, "low f0")
		wantFree(t, numbered(2, 0, 1), g, 0, 2)
		wantFree(t, numbered(2, 0, 1), g, 1, 2, 3)
		wantFree(t, numbered(2, 0, 1), g, 2, 1, 2, 3)
	}
	// The sum of the ranks does not matter.
	wantFree(t, numbered(0, 1, 2), [][]impl.Node{ranking(0, 1, 2), ranking(2, 1, 0), ranking(0, 1, 2)}, 1, 2)
}

func TestGroupChoice(t *testing.T) {
	// Three voters prefer 1 to 2 to 3, two prefer 2 to 3 to 1.
	up, round := ranking(0, 1, 2), ranking(1, 2, 0)
	l, g := numbered(0, 1, 2), [][]impl.Node{up, round, up, round, up}
	wantBorda(t, l, g, 2, 4, -6)
	// The rules stand here by the numbers that the document gives them.
	for rule, want := range []int{1, 2, 1} {
		wantChoice(t, l, g, rule, want)
	}
	// Each rule may choose another item.
	l, g = numbered(3, 0, 2, 1), [][]impl.Node{ranking(0, 3, 1, 2), ranking(1, 3, 2, 0), ranking(2, 3, 0, 1)}
	for rule, want := range []int{1, 1, 2} {
		wantChoice(t, l, g, rule, want)
	}
	for rule, want := range []int{-1, 2, 1} {
		wantChoice(t, fiveItems(), threeVoters(t), rule, want)
	}
}

func TestGroupChoiceIsTheFirstOfTheGreatest(t *testing.T) {
	for _, rule := range []int{impl.ByBorda, impl.ByApproval} {
		wantChoice(t, twins(impl.MaxItems, 1, 2, 3), group(t, "low f0", "high f1"), rule, 2)
		wantChoice(t, numbered(5, 1, 0, 0, 3, 0), group(t, "low f0", "low f2"), rule, 3)
		wantChoice(t, numbered(5, 1, 2, 3), group(t, "order f0 1>2,3>5", "low f1"), rule, 2)
	}
	// The one in the middle has the same scores as the first one, or greater ones than all.
	wantChoice(t, numbered(0, 1, 2), [][]impl.Node{ranking(0, 1, 2), ranking(2, 1, 0)}, impl.ByBorda, 1)
	wantChoice(t, numbered(0, 1, 2), [][]impl.Node{ranking(0, 1, 2), ranking(1, 2, 0)}, impl.ByBorda, 2)
	wantChoice(t, numbered(0, 1, 2), [][]impl.Node{ranking(1, 0, 2), ranking(2, 0, 1)}, impl.ByApproval, 2)
}

func TestVotingRulesThatDoNotExist(t *testing.T) {
	for _, rule := range noVotingRules {
		wantChoice(t, fiveItems(), threeVoters(t), rule, -1)
		wantChoice(t, numbered(0), threeVoters(t), rule, -1)
		wantChoice(t, nil, threeVoters(t), rule, -1)
		wantChoice(t, fiveItems(), nil, rule, -1)
	}
}

// Edge case: voters with opposite wishes.

func TestVotersWithOppositeWishes(t *testing.T) {
	l, g := numbered(4, 1, 3), group(t, "low f0", "high f0")
	for _, x := range l {
		for _, y := range l {
			votes := 1
			if x.Id == y.Id {
				votes = 0
			}
			wantVotes(t, l, g, x.Id, y.Id, votes)
		}
	}
	wantCondorcet(t, l, g, -1)
	wantBorda(t, l, g, 0, 0, 0)
	wantApproval(t, l, g, 1, 1, 0)
	wantUnanimous(t, l, g, 1, 2, 3)
	wantFree(t, l, g, 0)
	wantFree(t, l, g, 1, 3)
	wantFree(t, l, g, 2, 1, 2, 3)
	wantChoice(t, l, g, impl.ByBorda, 1)
	wantChoice(t, l, g, impl.ByApproval, 1)
	// What is in the middle comes first, but nobody finds it best.
	wantChoice(t, numbered(3, 1, 4), g, impl.ByBorda, 1)
	wantChoice(t, numbered(3, 1, 4), g, impl.ByApproval, 2)
}

func TestOppositeVotersAgreeOnNothing(t *testing.T) {
	source := rand.New(rand.NewSource(121))
	for i, e := range someExpressions(1) {
		if len(e) == impl.MaxNodes {
			continue
		}
		l, g := randomItems(source, 2+source.Intn(impl.MaxItems-1), 2+source.Intn(9)), opposites(e)
		if i%2 == 1 {
			g = slices.Concat(g, g)
		}
		for _, x := range l[:2] {
			for _, y := range l {
				if impl.VotesFor(l, g, x.Id, y.Id) != impl.VotesFor(l, g, y.Id, x.Id) {
					t.Errorf("%d and %d of %v do not have the same votes by %s", x.Id, y.Id, l, formatOfGroup(g))
				}
			}
		}
		wantCondorcet(t, l, g, -1)
		wantBorda(t, l, g, make([]int, len(l))...)
		wantUnanimous(t, l, g, impl.IdsOf(l)...)
		wantChoice(t, l, g, impl.ByBorda, l[0].Id)
	}
}

func TestOneMoreVoterThanOpposites(t *testing.T) {
	source := rand.New(rand.NewSource(122))
	for _, e := range [][]impl.Node{rivalOrder(), towerOrder(), reading(t, "near f0 4; high f1; both"), reading(t, "order f0 1>2,3>2,2>4")} {
		for _, deciding := range [][]impl.Node{towerOrder(), reading(t, "high f2"), reading(t, "low f2; low f0; high f1; and; then")} {
			l := randomItems(source, impl.MaxItems, 10)
			want := electionOf(l, [][]impl.Node{deciding})
			for at := range 3 {
				g := slices.Insert(opposites(e), at, deciding)
				wantElection(t, l, g)
				// The opposites change no lead, so that the third voter decides.
				wantCondorcet(t, l, g, want.condorcet)
				wantBorda(t, l, g, want.borda...)
				wantChoice(t, l, g, impl.ByBorda, firstWithMost(l, want.borda))
				wantElection(t, l, slices.Concat(g, opposites(rivalOrder())))
			}
		}
	}
}

func TestOppositeVotersForWhomItemsAreEqual(t *testing.T) {
	for _, e := range someExpressions(1) {
		if len(e) == impl.MaxNodes {
			continue
		}
		l, g := twins(5, 3, 0, 9), opposites(e)
		wantCondorcet(t, l, g, -1)
		wantBorda(t, l, g, 0, 0, 0, 0, 0)
		wantApproval(t, l, g, 2, 2, 2, 2, 2)
		wantUnanimous(t, l, g, impl.IdsOf(l)...)
		wantFree(t, l, g, 0, impl.IdsOf(l)...)
		wantVotes(t, l, g, 2, 7, 0)
	}
}

// Agreement with the votes.

func TestElectionsAgreeWithRelations(t *testing.T) {
	source, all := rand.New(rand.NewSource(123)), someExpressions(2)
	for i := range 400 {
		g := randomGroup(source, all, 1+i%impl.MaxVoters)
		wantElection(t, randomItems(source, source.Intn(impl.MaxItems+1), 2+source.Intn(9)), g)
	}
}

func TestElectionsOfRankings(t *testing.T) {
	source := rand.New(rand.NewSource(124))
	for i := range 300 {
		var g [][]impl.Node
		for range 1 + i%impl.MaxVoters {
			g = append(g, ranking(source.Perm(8)...))
		}
		wantElection(t, numbered(source.Perm(8)[:1+i%8]...), g)
	}
}

func TestElectionsOfAllRankingsOfThree(t *testing.T) {
	var all [][]impl.Node
	for _, s := range []string{"012", "021", "102", "120", "201", "210"} {
		all = append(all, ranking(int(s[0]-'0'), int(s[1]-'0'), int(s[2]-'0')))
	}
	for _, a := range all {
		for _, b := range all {
			for _, c := range all {
				wantElection(t, numbered(2, 0, 1), [][]impl.Node{a, b, c})
			}
		}
	}
}

func TestUnanimousBestIsParetoOfAllVoters(t *testing.T) {
	source, next := rand.New(rand.NewSource(125)), wishSource(125)
	for i := range 300 {
		// Five wishes, or three and their duals, are as many as one expression may have.
		g := [][]impl.Node{nodes(next()), nodes(next()), nodes(next()), nodes(next()), nodes(next())}
		if i%2 == 1 {
			g = [][]impl.Node{nodes(next(), impl.OpDual), nodes(next(), impl.OpDual), nodes(next(), impl.OpDual)}
		}
		g = g[i/2%len(g):]
		e, l := g[0], randomItems(source, impl.MaxItems, 2+source.Intn(9))
		for _, voter := range g[1:] {
			e, _ = impl.JoinExpressions(e, voter, impl.OpPareto)
		}
		wantUnanimous(t, l, g, impl.BestItems(l, e)...)
	}
}

func TestElectionsAgreeWithEachVoter(t *testing.T) {
	source, all := rand.New(rand.NewSource(126)), someExpressions(1)
	for i := range 200 {
		l, g := randomItems(source, 1+source.Intn(impl.MaxItems), 10), randomGroup(source, all, 1+i%impl.MaxVoters)
		borda, approval, worst := make([]int, len(l)), make([]int, len(l)), make([]int, len(l))
		for _, e := range g {
			for at, x := range l {
				borda[at] += len(impl.DominatedBy(l, e, x.Id)) - len(impl.DominatorsOf(l, e, x.Id))
				worst[at] = max(worst[at], impl.RankOf(l, e, x.Id))
				if impl.IsBest(l, e, x.Id) {
					approval[at]++
				}
			}
		}
		wantBorda(t, l, g, borda...)
		wantApproval(t, l, g, approval...)
		for at, x := range l {
			if !slices.Contains(impl.VetoFree(l, g, worst[at]), x.Id) || slices.Contains(impl.VetoFree(l, g, worst[at]-1), x.Id) {
				t.Errorf("%d of %v has the greatest rank %d by %s, with which VetoFree does not agree", x.Id, l, worst[at], formatOfGroup(g))
			}
		}
	}
}

func TestOrderOfVotersDoesNotMatter(t *testing.T) {
	source, all := rand.New(rand.NewSource(127)), someExpressions(1)
	for range 60 {
		l, g := randomItems(source, 1+source.Intn(impl.MaxItems), 10), randomGroup(source, all, impl.MaxVoters)
		want := electionOf(l, g)
		source.Shuffle(len(g), func(i, j int) { g[i], g[j] = g[j], g[i] })
		wantCondorcet(t, l, g, want.condorcet)
		wantBorda(t, l, g, want.borda...)
		wantApproval(t, l, g, want.approval...)
		wantUnanimous(t, l, g, want.unanimous...)
	}
}

// Values at and beyond each limit.

func TestNumberOfVoters(t *testing.T) {
	five := group(t, "low f0", "low f1", "near f0 4", "high f0; low f1; then", "low f2")
	for count := 1; count <= impl.MaxVoters; count++ {
		wantElection(t, fiveItems(), five[:count])
		wantElection(t, numbered(3, 1, 2), slices.Repeat(five[:1], count))
		wantVotes(t, numbered(3, 1, 2), slices.Repeat(five[:1], count), 2, 1, count)
	}
	for _, count := range []int{6, 7, 10, 32, 256, 257, 5000} {
		g := slices.Repeat(five, count)[:count]
		wantVoters(t, g, false)
		wantNoElection(t, fiveItems(), g)
	}
	for _, none := range [][][]impl.Node{nil, {}} {
		wantVoters(t, none, false)
		wantNoElection(t, fiveItems(), none)
		wantNoElection(t, numbered(0), none)
		wantNoElection(t, nil, none)
	}
}

func TestNumberOfItemsOfGroups(t *testing.T) {
	g := [][]impl.Node{towerOrder(), rivalOrder(), reading(t, "high f2")}
	for count := range impl.MaxItems + 1 {
		wantElection(t, tower(count), g)
		wantElection(t, rivals(min(count, 10)), g)
		wantElection(t, twins(count, 1, 2, 3), g)
	}
	wantElection(t, []impl.Item{}, g)
	for _, count := range []int{17, 18, 32, 33, 256, 272, 5000} {
		wantNoElection(t, tower(count), g)
	}
	// Ids in the range, so that only the number of items is beyond the limit.
	row := numbered(slices.Repeat([]int{3, 1, 2}, 6)...)
	wantNoElection(t, row, g)
	wantNoElection(t, row[:17], g)
	wantElection(t, row[:16], g)
	wantElection(t, row[1:17], g)
}

func TestGreatestScores(t *testing.T) {
	l, g := tower(impl.MaxItems), slices.Repeat([][]impl.Node{towerOrder()}, impl.MaxVoters)
	var borda []int
	for i := range l {
		borda = append(borda, impl.MaxVoters*(impl.MaxItems-1-2*i))
	}
	wantBorda(t, l, g, borda...)
	wantApproval(t, l, g, append([]int{impl.MaxVoters}, make([]int, impl.MaxItems-1)...)...)
	wantVotes(t, l, g, l[0].Id, l[15].Id, impl.MaxVoters)
	wantVotes(t, l, g, l[15].Id, l[0].Id, 0)
	for rule := impl.ByCondorcet; rule <= impl.ByApproval; rule++ {
		wantChoice(t, l, g, rule, l[0].Id)
	}
	// Upside down, the last item is chosen.
	g = slices.Repeat([][]impl.Node{nodes(towerOrder(), impl.OpDual)}, impl.MaxVoters)
	for rule := impl.ByCondorcet; rule <= impl.ByApproval; rule++ {
		wantChoice(t, l, g, rule, l[15].Id)
	}
}

func TestLimitsOfVetoes(t *testing.T) {
	l, g := tower(impl.MaxItems), [][]impl.Node{rivalOrder(), towerOrder(), reading(t, "low f0")}
	for _, limit := range sizesOfBands() {
		wantFree(t, l, g, limit, impl.IdsOf(l[:min(max(limit, -1), impl.MaxItems-1)+1])...)
		wantFree(t, nil, g, limit)
		if limit < 0 {
			wantFree(t, twins(16, 1, 2, 3), g, limit)
		} else {
			wantFree(t, twins(16, 1, 2, 3), g, limit, impl.IdsOf(twins(16, 1, 2, 3))...)
		}
	}
}

func TestIdsAndValuesAtTheLimitsOfGroups(t *testing.T) {
	for field := range impl.FieldCount {
		x, y := item(0, 5, 5, 5), item(99, 5, 5, 5)
		x.Values[field], y.Values[field] = 9, 0
		l, g := []impl.Item{x, y}, [][]impl.Node{nodes(lowWish(field)), nodes(lowWish((field + 1) % 3))}
		wantCondorcet(t, l, g, 99)
		wantBorda(t, l, g, -1, 1)
		wantApproval(t, l, g, 1, 2)
		wantUnanimous(t, l, g, 99)
		wantVotes(t, l, g, 99, 0, 1)
		wantElection(t, l, g)
		for _, v := range farValues {
			y.Values[field] = v
			wantNoElection(t, l, g)
			wantNoElection(t, l, g[1:])
		}
	}
	for _, id := range []int{-1, -2, math.MinInt} {
		wantNoElection(t, []impl.Item{item(id, 1, 0, 0), item(5, 2, 0, 0)}, threeVoters(t))
	}
	for _, id := range []int{100, 101, 1 << 8, 1 << 32, math.MaxInt} {
		wantNoElection(t, []impl.Item{item(5, 2, 0, 0), item(id, 1, 0, 0)}, threeVoters(t))
	}
}

func TestVotersAtAndBeyondTheLimitOfNodes(t *testing.T) {
	duals := slices.Repeat(nodes(impl.OpDual), 10)
	// Together, these voters have far more nodes than an expression may have.
	g := [][]impl.Node{
		nodes(lowWish(0), slices.Repeat(nodes(lowWish(1), impl.OpPrior), 4)),
		nodes(lowWish(0), slices.Repeat(nodes(highWish(2), impl.OpPareto), 4)),
		nodes(lowWish(1), duals[:8]),
		nodes(nearWish(0, 4), duals[:8]),
		nodes(nearWish(2, 4), slices.Repeat(nodes(lowWish(0), impl.OpMeet), 4)),
	}
	source := rand.New(rand.NewSource(128))
	for range 20 {
		wantElection(t, randomItems(source, impl.MaxItems, 2+source.Intn(5)), g)
	}
	wantElection(t, fiveItems(), g)
	for at := range g {
		beyond := slices.Clone(g)
		beyond[at] = nodes(g[at], impl.OpDual)
		wantVoters(t, beyond, false)
		wantNoElection(t, fiveItems(), beyond)
		beyond[at] = nodes(lowWish(0), duals)
		wantVoters(t, beyond, false)
		wantNoElection(t, fiveItems(), beyond)
	}
}

// Invalid arguments.

func TestVotesForIdsThatNoItemHas(t *testing.T) {
	g := [][]impl.Node{towerOrder(), rivalOrder(), reading(t, "low f0; not")}
	for _, l := range [][]impl.Item{fiveItems(), tower(16), {item(0, 0, 0, 0), item(99, 1, 0, 0)}, {item(1, 1, 2, 3)}, nil} {
		for _, id := range askedIds() {
			if slices.Contains(impl.IdsOf(l), id) {
				continue
			}
			wantVotes(t, l, g, id, id, 0)
			for _, x := range l {
				wantVotes(t, l, g, id, x.Id, 0)
				wantVotes(t, l, g, x.Id, id, 0)
			}
		}
	}
}

func TestGroupsWithInvalidVoters(t *testing.T) {
	for i, e := range invalidExpressions() {
		for at := range 3 {
			g := slices.Insert(group(t, "low f0", "low f1"), at, e)
			wantVoters(t, g, false)
			if i%4 == at {
				wantNoElection(t, fiveItems(), g)
			}
		}
		wantVoters(t, [][]impl.Node{e}, false)
		wantNoElection(t, fiveItems(), [][]impl.Node{e})
		wantNoElection(t, numbered(0), [][]impl.Node{e})
	}
	for at := range impl.MaxVoters {
		g := slices.Repeat(group(t, "low f0"), impl.MaxVoters)
		g[at] = nil
		wantVoters(t, g, false)
		wantNoElection(t, fiveItems(), g)
	}
	wantNoElection(t, nil, [][]impl.Node{nil})
	wantNoElection(t, []impl.Item{item(-1, 1, 2, 3)}, [][]impl.Node{nodes(lowWish(3))})
}

func TestGroupsWithInvalidItems(t *testing.T) {
	g := [][]impl.Node{rivalOrder(), towerOrder()}
	for _, x := range invalidItems() {
		wantNoElection(t, []impl.Item{x}, g)
		wantNoElection(t, []impl.Item{x}, g[:1])
		for at := range 6 {
			wantNoElection(t, slices.Insert(validItems(5), at, x), g)
		}
	}
	for at := range impl.MaxItems - 1 {
		l := tower(impl.MaxItems)
		l[at], l[at+1] = l[at+1], l[at]
		wantNoElection(t, l, g)
		l = tower(impl.MaxItems)
		l[at+1].Id = l[at].Id
		wantNoElection(t, l, g)
	}
	wantNoElection(t, []impl.Item{item(3, 1, 2, 3), item(3, 1, 2, 3)}, g)
	wantNoElection(t, []impl.Item{item(3, 1, 2, 3), item(2, 1, 2, 4)}, g)
}

func TestGroupsTakeEmptyListsForNil(t *testing.T) {
	g := [][]impl.Node{
		{{Wish: impl.Wish{List: []int{}, Pairs: []impl.Pair{}}}},
		{{Wish: impl.Wish{Field: 1, List: []int{7}[:0]}}, {Op: impl.OpDual, Wish: impl.Wish{List: []int{}, Pairs: pairs(0, 1)[:0]}}},
	}
	wantElection(t, fiveItems(), g)
	wantBorda(t, fiveItems(), g, 7, -1, -8, -2, 4)
}

// Memory and state.

// listsOfGroup returns what all functions with lists as results return.
func listsOfGroup(l []impl.Item, g [][]impl.Node) [][]int {
	return [][]int{impl.BordaScores(l, g), impl.ApprovalScores(l, g), impl.UnanimousBest(l, g), impl.VetoFree(l, g, 2), impl.VetoFree(l, g, 16)}
}

func TestGroupsShareNoMemory(t *testing.T) {
	for _, l := range [][]impl.Item{fiveItems(), tower(16), numbered(0, 0, 1, 1, 2, 2, 3, 3, 4, 4, 5, 5)} {
		g := [][]impl.Node{nodes(amongWish(0, 2, 3), orderWish(1, pairs(3, 5, 5, 4)), impl.OpPrior), towerOrder()}
		wantItems, wantGroup := copyOfItems(l), copyOfGroup(g)
		for range 2 {
			wantOwnLists(t, append(listsOfGroup(l, g), listsOfGroup(l, g)...))
			if !reflect.DeepEqual(l, wantItems) || !reflect.DeepEqual(g, wantGroup) {
				t.Fatalf("with the results, the arguments became %v and %v", l, g)
			}
			wantElection(t, l, g)
		}
	}
}

func TestGroupsDoNotModifyArguments(t *testing.T) {
	items := append(tower(17), item(-4, 1, 2, 3), item(3, 1, 2), item(3, 1, 2, 10))
	row := nodes(amongWish(0, 1, 3), amongWish(0, 1, 3), impl.OpPareto, impl.OpDual, orderWish(1, pairs(2, 1, 1, 0)), impl.OpMeet, nearWish(0, 12), -7)
	var voters [][]impl.Node
	for end := range len(row) + 1 {
		voters = append(voters, row[:end], row[end:])
	}
	wantItems, wantGroup, wantRow := copyOfItems(items), copyOfGroup(voters), copyOfNodes(row)
	for from := range len(items) {
		for to := from; to <= len(items); to += 3 {
			for start := range len(voters) {
				l, g := items[from:to], voters[start:min(start+1+to%3, len(voters))]
				impl.AreVoters(g)
				listsOfGroup(l, g)
				impl.VotesFor(l, g, 4, 9)
				impl.CondorcetOf(l, g)
				impl.GroupChoice(l, g, from%3)
			}
		}
	}
	if !reflect.DeepEqual(items, wantItems) || !reflect.DeepEqual(voters, wantGroup) || !reflect.DeepEqual(row, wantRow) {
		t.Errorf("the arguments became %v and %v", items, voters)
	}
}

func TestGroupsKeepNoState(t *testing.T) {
	l, g := numbered(1, 2, 1), [][]impl.Node{nodes(lowWish(0)), nodes(lowWish(2)), nodes(lowWish(0))}
	for i := range 12 {
		// The same memory holds other items and another voter in every second and third round, of which one is left out in every fourth one.
		less := i % 4 / 3
		l[1].Values[0] = 2 * (i % 2)
		g[2][0].Wish.Kind = []int{impl.WishLow, impl.WishHigh, impl.WishLow}[i%3]
		wantElection(t, l, g)
		wantElection(t, l[:3-less], g[less:])
	}
}

func TestGroupsOfManyCallsAtOnce(t *testing.T) {
	// The arguments change when all calls have returned, and only then.
	l, g := tower(impl.MaxItems), [][]impl.Node{towerOrder(), rivalOrder(), reading(t, "low f0"), reading(t, "order f1 3>4,4>5,1>4"), reading(t, "high f2")}
	for round := range 20 {
		l[round%impl.MaxItems].Values[0] = round % 2 * 9
		want := electionOf(l, g)
		same := make(chan bool)
		for i, x := range l {
			go func() {
				isSame := slices.Equal(impl.BordaScores(l, g), want.borda) && slices.Equal(impl.ApprovalScores(l, g), want.approval)
				isSame = isSame && slices.Equal(impl.UnanimousBest(l, g), want.unanimous) && impl.CondorcetOf(l, g) == want.condorcet
				same <- isSame && impl.VotesFor(l, g, x.Id, l[0].Id) == want.votes[i][0]
			}()
		}
		for range l {
			if !<-same {
				t.Errorf("the results for %v differ from call to call", l)
			}
		}
	}
}

func TestGroupsLeaveNothingRunning(t *testing.T) {
	before, l, g := runtime.NumGoroutine(), tower(impl.MaxItems), slices.Repeat([][]impl.Node{towerOrder()}, impl.MaxVoters)
	for range 100 {
		listsOfGroup(l, g)
		impl.VotesFor(l, g, 4, 9)
		impl.CondorcetOf(l, g)
		for rule := impl.ByCondorcet; rule <= impl.ByApproval; rule++ {
			impl.GroupChoice(l, g, rule)
		}
		listsOfGroup(l, nil)
		impl.CondorcetOf(nil, g)
	}
	wantNoMoreRunning(t, before)
}
