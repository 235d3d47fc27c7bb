package tests

// Promise 3, as far as partial orders of values go: what is above what is a strict partial order.
// Promise 2, as far as pairs go: they can be parsed from their string format, and no other strings are accepted.

import (
	"fmt"
	"math"
	"math/rand"
	"regexp"
	"slices"
	"strings"
	"testing"

	"loop.example/g01987/impl"
)

const valueCount = impl.MaxValue + 1

var pairsFormat = regexp.MustCompile(`^[0-9]>[0-9](,[0-9]>[0-9])*$`)

// pairs returns the pairs of the numbers, taken two by two.
func pairs(numbers ...int) []impl.Pair {
	var l []impl.Pair
	for i := 0; i < len(numbers); i += 2 {
		l = append(l, impl.Pair{Better: numbers[i], Worse: numbers[i+1]})
	}
	return l
}

// chain returns so many pairs, each of which begins where the one before it ends.
func chain(count int) []impl.Pair {
	var l []impl.Pair
	for v := range count {
		l = append(l, impl.Pair{Better: v, Worse: v + 1})
	}
	return l
}

// circle returns a chain and a last pair that leads back to its beginning.
func circle(count int) []impl.Pair {
	return append(chain(count-1), impl.Pair{Better: count - 1, Worse: 0})
}

// facts are what the document says of some pairs, found without the program.
type facts struct {
	valid   bool
	above   [valueCount][valueCount]bool
	heights [valueCount]int
	order   []int
}

// factsOf looks at all ways of up to MaxPairs+1 pairs, step by step.
func factsOf(l []impl.Pair) facts {
	for _, p := range l {
		if p.Better < 0 || p.Better > impl.MaxValue || p.Worse < 0 || p.Worse > impl.MaxValue {
			return facts{}
		}
	}
	if len(l) > impl.MaxPairs {
		return facts{}
	}
	f := facts{valid: true}
	var ends [valueCount][valueCount]bool
	for v := range valueCount {
		ends[v][v] = true
	}
	for step := 1; step <= impl.MaxPairs+1; step++ {
		var next [valueCount][valueCount]bool
		for a := range valueCount {
			for _, p := range l {
				if ends[a][p.Better] {
					next[a][p.Worse] = true
					f.above[a][p.Worse] = true
					f.heights[p.Worse] = step
				}
			}
		}
		ends = next
	}
	for v := range valueCount {
		if f.above[v][v] {
			return facts{}
		}
	}
	f.order = orderOf(l)
	return f
}

// orderOf follows the words of the document, and is for valid pairs only.
func orderOf(l []impl.Pair) []int {
	var order []int
	for len(order) < valueCount {
		for v := range valueCount {
			waits := slices.ContainsFunc(l, func(p impl.Pair) bool {
				return p.Worse == v && !slices.Contains(order, p.Better)
			})
			if !slices.Contains(order, v) && !waits {
				order = append(order, v)
				break
			}
		}
	}
	return order
}

// formatOf writes pairs without the program, valid or not.
func formatOf(l []impl.Pair) string {
	if len(l) == 0 {
		return "none"
	}
	var words []string
	for _, p := range l {
		words = append(words, fmt.Sprintf("%d>%d", p.Better, p.Worse))
	}
	return strings.Join(words, ",")
}

// readPairs reads any list of digits with > between them, without the program.
func readPairs(s string) ([]impl.Pair, bool) {
	if s == "none" {
		return nil, true
	}
	if !pairsFormat.MatchString(s) {
		return nil, false
	}
	var l []impl.Pair
	for i := 0; i < len(s); i += 4 {
		l = append(l, impl.Pair{Better: int(s[i] - '0'), Worse: int(s[i+2] - '0')})
	}
	return l, factsOf(l).valid
}

// listsOfPairs returns all lists of at most so many pairs of the first values.
func listsOfPairs(values, length int) [][]impl.Pair {
	all := [][]impl.Pair{nil}
	last := all
	for range length {
		var next [][]impl.Pair
		for _, l := range last {
			for n := range values * values {
				next = append(next, append(slices.Clone(l), impl.Pair{Better: n / values, Worse: n % values}))
			}
		}
		all = append(all, next...)
		last = next
	}
	return all
}

// mixedLists returns the same lists in every run; about half of them lead down only, so that they are valid.
func mixedLists() [][]impl.Pair {
	source := rand.New(rand.NewSource(3))
	var all [][]impl.Pair
	for n := range 4000 {
		rank := source.Perm(valueCount)
		var l []impl.Pair
		for range n % (impl.MaxPairs + 2) {
			a, b := source.Intn(valueCount), source.Intn(valueCount)
			if n%20 < 15 && rank[a] > rank[b] {
				a, b = b, a
			}
			l = append(l, impl.Pair{Better: a, Worse: b})
		}
		all = append(all, l)
	}
	return all
}

// someLists returns lists of every kind: short ones, long ones, chains and circles.
func someLists() [][]impl.Pair {
	all := append(listsOfPairs(4, 3), mixedLists()...)
	all = append(all, listsOfPairs(valueCount, 1)...)
	for count := 1; count <= valueCount; count++ {
		all = append(all, chain(count-1), circle(count))
		back := chain(count - 1)
		slices.Reverse(back)
		all = append(all, back)
	}
	return all
}

// invalidPairs returns lists that break one rule each, just beyond the limits and far from them.
func invalidPairs() [][]impl.Pair {
	all := [][]impl.Pair{chain(9), pairs(0, 1, 0, 1, 0, 1, 0, 1, 0, 1, 0, 1, 0, 1, 0, 1, 0, 1), make([]impl.Pair, 9), slices.Repeat(pairs(0, 1), 40)}
	for v := range valueCount {
		all = append(all, pairs(v, v))
	}
	for count := 2; count <= impl.MaxPairs; count++ {
		all = append(all, circle(count))
	}
	for _, v := range []int{-1, -2, 10, 11, 100, math.MaxInt, math.MinInt, 1 << 32, 1 << 8} {
		all = append(all, pairs(v, 1), pairs(1, v), pairs(v, v))
		for at := range impl.MaxPairs {
			better, worse := chain(impl.MaxPairs), chain(impl.MaxPairs)
			better[at].Better, worse[at].Worse = v, v
			all = append(all, better, worse)
		}
	}
	return append(all, pairs(0, 1, 1, 0), pairs(0, 1, 2, 3, 3, 2), pairs(0, 1, 1, 2, 1, 1), pairs(0, 5, 5, 9, 9, 3, 3, 5))
}

// wantAsFacts checks every function of the chapter against the facts.
func wantAsFacts(t *testing.T, l []impl.Pair) {
	t.Helper()
	f := factsOf(l)
	if got := impl.ArePairs(l); got != f.valid {
		t.Errorf("ArePairs(%v) = %t", l, got)
	}
	var closure []impl.Pair
	for a := -2; a <= valueCount+1; a++ {
		for b := -2; b <= valueCount+1; b++ {
			inRange := a >= 0 && a < valueCount && b >= 0 && b < valueCount
			want := inRange && f.above[a][b]
			if got := impl.IsAbove(l, a, b); got != want {
				t.Errorf("IsAbove(%v, %d, %d) = %t", l, a, b, got)
			}
			if want {
				closure = append(closure, impl.Pair{Better: a, Worse: b})
			}
		}
	}
	if got := impl.ClosureOf(l); !slices.Equal(got, closure) {
		t.Errorf("ClosureOf(%v) = %v, want %v", l, got, closure)
	}
	for v := -2; v <= valueCount+1; v++ {
		want := -1
		if f.valid && v >= 0 && v < valueCount {
			want = f.heights[v]
		}
		wantHeight(t, l, v, want)
	}
	if got := impl.Linearize(l); !slices.Equal(got, f.order) {
		t.Errorf("Linearize(%v) = %v, want %v", l, got, f.order)
	}
	wantFormat := ""
	if f.valid {
		wantFormat = formatOf(l)
		wantPairs(t, wantFormat, l, true)
	} else {
		wantPairs(t, formatOf(l), nil, false)
	}
	if got := impl.FormatPairs(l); got != wantFormat {
		t.Errorf("FormatPairs(%v) = %q, want %q", l, got, wantFormat)
	}
}

func wantPairs(t *testing.T, s string, want []impl.Pair, ok bool) {
	t.Helper()
	if got, gotOk := impl.ParsePairs(s); !slices.Equal(got, want) || gotOk != ok {
		t.Errorf("ParsePairs(%q) = %v, %t, want %v, %t", s, got, gotOk, want, ok)
	}
}

func wantHeight(t *testing.T, l []impl.Pair, v, want int) {
	t.Helper()
	if got := impl.HeightOf(l, v); got != want {
		t.Errorf("HeightOf(%v, %d) = %d, want %d", l, v, got, want)
	}
}

func TestPairLimits(t *testing.T) {
	if impl.MaxPairs != 8 {
		t.Errorf("MaxPairs = %d", impl.MaxPairs)
	}
}

func TestArePairs(t *testing.T) {
	for _, l := range [][]impl.Pair{
		nil, {}, pairs(0, 9), pairs(9, 0), pairs(0, 1, 1, 2, 3, 2), pairs(0, 1, 0, 2, 1, 3, 2, 3), pairs(0, 1, 0, 1),
		pairs(5, 1, 5, 2, 5, 3, 5, 4, 5, 6, 5, 7, 5, 8, 5, 9), pairs(1, 5, 2, 5, 3, 5, 4, 5, 6, 5, 7, 5, 8, 5, 9, 5), slices.Repeat(pairs(0, 9), 8),
	} {
		if !impl.ArePairs(l) {
			t.Errorf("ArePairs(%v) = false", l)
		}
	}
	for count := range impl.MaxPairs + 1 {
		if !impl.ArePairs(chain(count)) {
			t.Errorf("%d pairs are valid", count)
		}
	}
	for _, l := range invalidPairs() {
		if impl.ArePairs(l) {
			t.Errorf("ArePairs(%v) = true", l)
		}
	}
}

func TestInvalidPairsHaveFixedResults(t *testing.T) {
	for _, l := range invalidPairs() {
		wantAsFacts(t, l)
		for v := range valueCount {
			wantHeight(t, l, v, -1)
			for b := range valueCount {
				if impl.IsAbove(l, v, b) {
					t.Errorf("IsAbove(%v, %d, %d) = true", l, v, b)
				}
			}
		}
		if impl.IsAbove(l, math.MaxInt, 1) || impl.IsAbove(l, -1, 1) || impl.IsAbove(l, 1, 10) {
			t.Errorf("IsAbove by %v of what is no value", l)
		}
		if len(impl.ClosureOf(l)) != 0 || len(impl.Linearize(l)) != 0 || impl.FormatPairs(l) != "" {
			t.Errorf("the invalid pairs %v have a result", l)
		}
	}
}

func TestPairsAgreeWithAllWays(t *testing.T) {
	valid := 0
	for _, l := range someLists() {
		wantAsFacts(t, l)
		if impl.ArePairs(l) {
			valid++
		}
	}
	if valid < 2000 || valid > len(someLists())-2000 {
		t.Errorf("%d of %d lists are valid: too few of one kind", valid, len(someLists()))
	}
}

func TestAboveIsAStrictPartialOrder(t *testing.T) {
	for _, l := range someLists() {
		var above [valueCount][valueCount]bool
		for a := range valueCount {
			for b := range valueCount {
				above[a][b] = impl.IsAbove(l, a, b)
			}
		}
		for _, p := range l {
			if impl.ArePairs(l) && !above[p.Better][p.Worse] {
				t.Errorf("%v is not above by %v", p, l)
			}
		}
		for a := range valueCount {
			if above[a][a] {
				t.Errorf("%d is above itself by %v", a, l)
			}
			for b := range valueCount {
				if above[a][b] && above[b][a] {
					t.Errorf("%d and %d are above each other by %v", a, b, l)
				}
				for c := range valueCount {
					if above[a][b] && above[b][c] && !above[a][c] {
						t.Errorf("%d is above %d, and this above %d by %v", a, b, c, l)
					}
				}
			}
		}
	}
}

func TestOrderOfValuesAgreesWithItself(t *testing.T) {
	for _, l := range someLists() {
		order := impl.Linearize(l)
		for _, p := range impl.ClosureOf(l) {
			if !impl.IsAbove(l, p.Better, p.Worse) || impl.HeightOf(l, p.Better) >= impl.HeightOf(l, p.Worse) {
				t.Errorf("%v is in the closure of %v", p, l)
			}
			if slices.Index(order, p.Better) >= slices.Index(order, p.Worse) {
				t.Errorf("%v is not in the order %v of %v", p, order, l)
			}
		}
	}
}

func TestPairThatIsThereTwice(t *testing.T) {
	once, twice := pairs(0, 1, 1, 2), pairs(0, 1, 1, 2, 0, 1)
	if !impl.ArePairs(twice) || !impl.ArePairs(pairs(3, 4, 3, 4)) {
		t.Error("ArePairs")
	}
	if !impl.IsAbove(twice, 0, 1) || !impl.IsAbove(twice, 0, 2) || impl.IsAbove(twice, 1, 0) || impl.IsAbove(twice, 0, 0) {
		t.Error("IsAbove")
	}
	if got := impl.ClosureOf(twice); !slices.Equal(got, pairs(0, 1, 0, 2, 1, 2)) || !slices.Equal(got, impl.ClosureOf(once)) {
		t.Errorf("ClosureOf = %v", got)
	}
	wantHeight(t, twice, 0, 0)
	wantHeight(t, twice, 1, 1)
	wantHeight(t, twice, 2, 2)
	if got := impl.Linearize(pairs(9, 0, 9, 0)); !slices.Equal(got, []int{1, 2, 3, 4, 5, 6, 7, 8, 9, 0}) {
		t.Errorf("Linearize = %v", got)
	}
	if got := impl.FormatPairs(twice); got != "0>1,1>2,0>1" {
		t.Errorf("FormatPairs = %q", got)
	}
	wantPairs(t, "0>1,1>2,0>1", twice, true)
	wantPairs(t, "0>1,0>1", pairs(0, 1, 0, 1), true)
	wantPairs(t, "0>1,0>1,1>0", nil, false)
}

func TestPairsThatAreThereTwiceCountForTheLimit(t *testing.T) {
	for _, p := range [][]impl.Pair{pairs(0, 1), pairs(9, 0), pairs(4, 7)} {
		for count := range 12 {
			l := slices.Repeat(p, count)
			if got := impl.ArePairs(l); got != (count <= impl.MaxPairs) {
				t.Errorf("ArePairs of the same pair %d times = %t", count, got)
			}
			wantAsFacts(t, l)
		}
	}
	if impl.ArePairs(append(chain(8), chain(1)...)) {
		t.Error("a ninth pair is one too many, even if it is there already")
	}
	for at := range 7 {
		wantAsFacts(t, append(chain(7), chain(7)[at]))
		wantAsFacts(t, append(chain(7)[at:at+1], chain(7)...))
	}
}

func TestOrderOfPairsDoesNotMatter(t *testing.T) {
	for _, l := range mixedLists() {
		back := slices.Clone(l)
		slices.Reverse(back)
		if !slices.Equal(impl.ClosureOf(l), impl.ClosureOf(back)) || !slices.Equal(impl.Linearize(l), impl.Linearize(back)) {
			t.Errorf("%v and %v differ", l, back)
		}
	}
}

func TestIsAbove(t *testing.T) {
	l := pairs(0, 1, 1, 2, 3, 2)
	for _, p := range pairs(0, 1, 0, 2, 1, 2, 3, 2) {
		if !impl.IsAbove(l, p.Better, p.Worse) || impl.IsAbove(l, p.Worse, p.Better) {
			t.Errorf("IsAbove(%v) by %v", p, l)
		}
	}
	for _, p := range pairs(0, 3, 3, 0, 1, 3, 0, 0, 2, 2, 9, 9, 4, 5, -1, 1, 1, 10, 10, 1, 0, math.MaxInt, math.MinInt, 2, math.MaxInt, math.MaxInt) {
		if impl.IsAbove(l, p.Better, p.Worse) {
			t.Errorf("IsAbove(%v) by %v = true", p, l)
		}
	}
	if impl.IsAbove(nil, 0, 1) || impl.IsAbove(nil, 0, 0) {
		t.Error("above by no pairs")
	}
	if !impl.IsAbove(chain(8), 0, 8) || impl.IsAbove(chain(8), 0, 9) || impl.IsAbove(chain(9), 0, 9) {
		t.Error("the ends of a chain")
	}
}

func TestClosureOf(t *testing.T) {
	if len(impl.ClosureOf(nil)) != 0 || len(impl.ClosureOf([]impl.Pair{})) != 0 {
		t.Error("closure of no pairs")
	}
	if got := impl.ClosureOf(pairs(3, 2, 1, 2, 0, 1)); !slices.Equal(got, pairs(0, 1, 0, 2, 1, 2, 3, 2)) {
		t.Errorf("ClosureOf = %v", got)
	}
	if got := impl.ClosureOf(pairs(9, 8, 8, 0)); !slices.Equal(got, pairs(8, 0, 9, 0, 9, 8)) {
		t.Errorf("ClosureOf = %v", got)
	}
	if got := impl.ClosureOf(chain(8)); len(got) != 36 {
		t.Errorf("ClosureOf the longest chain = %v", got)
	}
}

func TestHeightOf(t *testing.T) {
	l := pairs(0, 3, 0, 1, 1, 2, 2, 3, 4, 3)
	for v, want := range []int{0, 1, 2, 3, 0, 0, 0, 0, 0, 0} {
		wantHeight(t, l, v, want)
	}
	for v := range valueCount - 1 {
		wantHeight(t, chain(8), v, v)
		wantHeight(t, chain(9), v, -1)
		wantHeight(t, nil, v, 0)
	}
	for _, v := range []int{-1, -2, 10, 11, math.MaxInt, math.MinInt, 1 << 32} {
		wantHeight(t, l, v, -1)
		wantHeight(t, nil, v, -1)
		wantHeight(t, chain(9), v, -1)
	}
}

func TestLinearize(t *testing.T) {
	for _, c := range []struct {
		pairs []impl.Pair
		want  []int
	}{
		{nil, []int{0, 1, 2, 3, 4, 5, 6, 7, 8, 9}},
		{pairs(0, 1, 1, 2, 3, 2), []int{0, 1, 3, 2, 4, 5, 6, 7, 8, 9}},
		{pairs(9, 0), []int{1, 2, 3, 4, 5, 6, 7, 8, 9, 0}},
		{pairs(5, 0, 7, 1), []int{2, 3, 4, 5, 0, 6, 7, 1, 8, 9}},
		{pairs(8, 7, 7, 6, 6, 5, 5, 4, 4, 3, 3, 2, 2, 1, 1, 0), []int{8, 7, 6, 5, 4, 3, 2, 1, 0, 9}},
		{pairs(9, 1, 9, 2, 9, 3, 9, 4, 9, 5, 9, 6, 9, 7, 9, 8), []int{0, 9, 1, 2, 3, 4, 5, 6, 7, 8}},
	} {
		if got := impl.Linearize(c.pairs); !slices.Equal(got, c.want) {
			t.Errorf("Linearize(%v) = %v, want %v", c.pairs, got, c.want)
		}
	}
}

func TestFormatPairs(t *testing.T) {
	for want, l := range map[string][]impl.Pair{
		"none":                            nil,
		"0>1":                             pairs(0, 1),
		"9>0":                             pairs(9, 0),
		"0>1,1>2,3>2":                     pairs(0, 1, 1, 2, 3, 2),
		"3>2,0>1,1>2":                     pairs(3, 2, 0, 1, 1, 2),
		"0>1,1>2,2>3,3>4,4>5,5>6,6>7,7>8": chain(8),
	} {
		if got := impl.FormatPairs(l); got != want {
			t.Errorf("FormatPairs(%v) = %q, want %q", l, got, want)
		}
		wantPairs(t, want, l, true)
	}
	if got := impl.FormatPairs([]impl.Pair{}); got != "none" {
		t.Errorf("FormatPairs of no pairs = %q", got)
	}
}

func TestParsePairsOfAllShortStrings(t *testing.T) {
	words := append(wordsOver("019>,", 7), wordsOver("0-> n", 6)...)
	words = append(words, wordsOver("none,", 6)...)
	for _, s := range append(words, wordsOver(allBytes(), 2)...) {
		l, ok := readPairs(s)
		if !ok {
			l = nil
		}
		wantPairs(t, s, l, ok)
	}
}

func TestParsePairsOfChangedFormats(t *testing.T) {
	check := func(s string) {
		l, ok := readPairs(s)
		if !ok {
			l = nil
		}
		wantPairs(t, s, l, ok)
	}
	for _, s := range []string{"none", "0>1", "0>1,1>2,3>2", "0>9,0>9", formatOf(chain(7)), formatOf(chain(8))} {
		for at := range len(s) + 1 {
			check(s[:at])
			check(s[at:])
			check(s[:at] + s[min(at+1, len(s)):])
			for b := range 256 {
				c := string([]byte{byte(b)})
				check(s[:at] + c + s[at:])
				if at < len(s) {
					check(s[:at] + c + s[at+1:])
				}
			}
		}
		check(s + "," + s)
		check(s + ",9>8")
	}
}

func TestParsePairsRejects(t *testing.T) {
	for _, s := range []string{
		"", " ", ",", ">", ">,>", "0", "0>", ">1", "0>1,", ",0>1", "0>1,,1>2", "0>1>2", "0>>1", "0<1", "0=1", "0:1", "0-1", "0 1", "0,1", "0>1;1>2", "0>1 1>2", "0>11>2",
		"0 >1", "0> 1", " 0>1", "0>1 ", "0>1, 1>2", "0>1\n", "\n0>1", "0>1\x00", "\xff0>1", "\ufeff0>1", "0>1\xff",
		"00>1", "0>01", "-0>1", "0>-0", "+0>1", "0>+1", "0x0>1", "a>1", "0>b", "0.0>1", "０>１", "0＞1", "0>1，1>2",
		"10>1", "1>10", "0>10", "-1>0", "0>-1", "100>0", "4294967296>1", "18446744073709551617>2", "0>18446744073709551617", "256>1",
		"0>0", "3>3", "9>9", "0>1,1>0", "0>1,1>2,2>0", "0>1,3>3", formatOf(circle(8)), formatOf(chain(9)), formatOf(slices.Repeat(pairs(0, 1), 9)),
		"None", "NONE", "none ", " none", "nonE", "non", "nonee", "none,", ",none", "none,none", "none,0>1", "0>1,none", "none>1", "0>none", "nil", "null", "{}", "[]",
		strings.Repeat("0>1,", 5000) + "0>1", strings.Repeat(",", 5000), strings.Repeat(">", 5000), strings.Repeat("1", 5000) + ">2",
	} {
		wantPairs(t, s, nil, false)
	}
}

func TestPairsAreNotModified(t *testing.T) {
	row := append(pairs(3, 2, 1, 2, 0, 1), pairs(7, 7, 20, -5)...)
	want := slices.Clone(row)
	for count := range len(row) + 1 {
		l := row[:count]
		impl.ArePairs(l)
		impl.IsAbove(l, 0, 2)
		impl.ClosureOf(l)
		impl.HeightOf(l, 2)
		impl.Linearize(l)
		impl.FormatPairs(l)
	}
	if !slices.Equal(row, want) {
		t.Errorf("the pairs became %v", row)
	}
}

func TestPairsResultsShareNoMemory(t *testing.T) {
	l := pairs(0, 1, 1, 2)
	closure, order := impl.ClosureOf(l), impl.Linearize(l)
	read, _ := impl.ParsePairs("0>1,1>2")
	if len(closure) != 3 || len(order) != valueCount || len(read) != 2 {
		t.Fatalf("%v, %v and %v", closure, order, read)
	}
	closure[0], order[0], read[0] = impl.Pair{Better: 8, Worse: 7}, 9, impl.Pair{Better: 6, Worse: 5}
	if !slices.Equal(l, pairs(0, 1, 1, 2)) {
		t.Errorf("the pairs became %v", l)
	}
	wantAsFacts(t, l)
}
