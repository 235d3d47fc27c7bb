package tests

// Promise 2, as far as items go: they can be parsed from their string formats, and no other strings are accepted.

import (
	"fmt"
	"math"
	"reflect"
	"slices"
	"strings"
	"testing"

	"loop.example/g01987/impl"
)

func item(id int, values ...int) impl.Item {
	return impl.Item{Id: id, Values: values}
}

// validItems returns so many items with ascending Ids.
func validItems(count int) []impl.Item {
	var l []impl.Item
	for i := range count {
		l = append(l, item(3*i+1, i%10, 9-i%10, 5))
	}
	return l
}

func copyOfItems(l []impl.Item) []impl.Item {
	var c []impl.Item
	for _, x := range l {
		c = append(c, impl.Item{Id: x.Id, Values: slices.Clone(x.Values)})
	}
	return c
}

// invalidItems returns items that break one rule each, just beyond the limits and far from them.
func invalidItems() []impl.Item {
	l := []impl.Item{{}, {Id: 1}, {Id: 1, Values: []int{}}, item(1, 2), item(1, 2, 3), item(1, 2, 3, 4, 5), item(1, 0, 0, 0, 0, 0, 0)}
	for _, id := range []int{-1, -2, 100, 101, 1000, math.MaxInt, math.MinInt, 1 << 32, 1 << 8} {
		l = append(l, item(id, 2, 3, 4))
	}
	for field := range impl.FieldCount {
		for _, v := range []int{-1, -2, 10, 11, 100, math.MaxInt, math.MinInt, 1 << 32, 1 << 8} {
			x := item(1, 2, 3, 4)
			x.Values[field] = v
			l = append(l, x)
		}
	}
	return l
}

// itemsByFormat returns all valid items under their formats, written without the program.
func itemsByFormat() map[string]impl.Item {
	all := map[string]impl.Item{}
	for id := range 100 {
		for n := range 1000 {
			a, b, c := n/100, n/10%10, n%10
			all[fmt.Sprintf("%d:%d,%d,%d", id, a, b, c)] = item(id, a, b, c)
		}
	}
	return all
}

func wantItem(t *testing.T, s string, want impl.Item, ok bool) {
	t.Helper()
	got, gotOk := impl.ParseItem(s)
	if got.Id != want.Id || !slices.Equal(got.Values, want.Values) || gotOk != ok {
		t.Errorf("ParseItem(%q) = %v, %t, want %v, %t", s, got, gotOk, want, ok)
	}
}

func wantEqual(t *testing.T, a, b []impl.Item, want bool) {
	t.Helper()
	if impl.EqualItems(a, b) != want || impl.EqualItems(b, a) != want {
		t.Errorf("EqualItems(%v, %v) = %t, and exchanged %t, want %t", a, b, impl.EqualItems(a, b), impl.EqualItems(b, a), want)
	}
}

func TestItemLimits(t *testing.T) {
	if impl.FieldCount != 3 || impl.MaxValue != 9 || impl.MaxItems != 16 {
		t.Errorf("limits %d, %d, %d", impl.FieldCount, impl.MaxValue, impl.MaxItems)
	}
}

func TestIsItem(t *testing.T) {
	for _, x := range []impl.Item{item(0, 0, 0, 0), item(99, 9, 9, 9), item(1, 2, 5, 0), item(0, 9, 0, 9), item(99, 0, 9, 0), item(98, 8, 1, 8)} {
		if !impl.IsItem(x) {
			t.Errorf("IsItem(%v) = false", x)
		}
	}
	for _, x := range invalidItems() {
		if impl.IsItem(x) {
			t.Errorf("IsItem(%v) = true", x)
		}
	}
}

func TestIsItemLooksAtTheLengthOnly(t *testing.T) {
	row := []int{2, 3, 4, 5}
	if !impl.IsItem(impl.Item{Id: 1, Values: row[:3]}) {
		t.Error("three values with room for a fourth are valid")
	}
	if impl.IsItem(impl.Item{Id: 1, Values: row[:2]}) || impl.IsItem(impl.Item{Id: 1, Values: row[:0]}) {
		t.Error("values behind the end count")
	}
}

func TestAreItems(t *testing.T) {
	if !impl.AreItems(nil) || !impl.AreItems([]impl.Item{}) {
		t.Error("no items are valid")
	}
	for count := range impl.MaxItems + 1 {
		if !impl.AreItems(validItems(count)) {
			t.Errorf("%d items are valid", count)
		}
	}
	for _, count := range []int{impl.MaxItems + 1, impl.MaxItems + 2, 33} {
		if impl.AreItems(validItems(count)) {
			t.Errorf("%d items are too many", count)
		}
	}
	if !impl.AreItems([]impl.Item{item(0, 0, 0, 0), item(1, 0, 0, 0), item(99, 0, 0, 0)}) {
		t.Error("the least and the greatest Id are valid")
	}
}

func TestAreItemsWithAnInvalidOne(t *testing.T) {
	for at := range impl.MaxItems {
		for _, x := range invalidItems() {
			l := validItems(impl.MaxItems)
			l[at] = x
			if impl.AreItems(l) {
				t.Errorf("AreItems with %v at %d = true", x, at)
			}
		}
		// These keep the order of the Ids, so that only the values are wrong.
		for _, values := range [][]int{nil, {1, 2}, {1, 2, 3, 4}, {1, 2, 10}, {-1, 2, 3}} {
			l := validItems(impl.MaxItems)
			l[at].Values = values
			if impl.AreItems(l) {
				t.Errorf("AreItems with the values %v at %d = true", values, at)
			}
		}
	}
	if impl.AreItems([]impl.Item{item(-1, 0, 0, 0), item(5, 0, 0, 0)}) || impl.AreItems([]impl.Item{item(5, 0, 0, 0), item(100, 0, 0, 0)}) {
		t.Error("an Id is out of range")
	}
}

func TestAreItemsOrder(t *testing.T) {
	for at := range impl.MaxItems - 1 {
		l := validItems(impl.MaxItems)
		l[at], l[at+1] = l[at+1], l[at]
		if impl.AreItems(l) {
			t.Errorf("exchanged at %d", at)
		}
		l = validItems(impl.MaxItems)
		l[at].Id = l[at+1].Id
		if impl.AreItems(l) {
			t.Errorf("same Id at %d", at)
		}
	}
	l := validItems(impl.MaxItems)
	slices.Reverse(l)
	if impl.AreItems(l) {
		t.Error("descending")
	}
	if impl.AreItems([]impl.Item{item(5, 1, 2, 3), item(1, 1, 2, 3), item(6, 1, 2, 3)}) || impl.AreItems([]impl.Item{item(1, 1, 2, 3), item(2, 1, 2, 3), item(1, 4, 5, 6)}) {
		t.Error("descending in part")
	}
}

func TestItemsThatDifferInTheirNumberOnly(t *testing.T) {
	x, y := item(4, 1, 2, 3), item(5, 1, 2, 3)
	both := []impl.Item{x, y}
	if !impl.AreItems(both) || impl.AreItems([]impl.Item{y, x}) || impl.AreItems([]impl.Item{x, x}) {
		t.Error("AreItems")
	}
	if impl.FindItem(both, 4) != 0 || impl.FindItem(both, 5) != 1 || impl.FindItem(both, 6) != -1 {
		t.Error("FindItem")
	}
	if !slices.Equal(impl.IdsOf(both), []int{4, 5}) {
		t.Error("IdsOf")
	}
	if impl.FormatItem(x) != "4:1,2,3" || impl.FormatItem(y) != "5:1,2,3" {
		t.Error("FormatItem")
	}
	wantItem(t, "4:1,2,3", x, true)
	wantItem(t, "5:1,2,3", y, true)
	wantEqual(t, []impl.Item{x}, []impl.Item{y}, false)
	wantEqual(t, both, []impl.Item{y, x}, false)
	wantEqual(t, both, []impl.Item{x, x}, false)
	wantEqual(t, []impl.Item{item(-4, 1)}, []impl.Item{item(4, 1)}, false)
	wantEqual(t, []impl.Item{{Id: 4}}, []impl.Item{{Id: 5}}, false)
}

func TestFindItem(t *testing.T) {
	l := validItems(impl.MaxItems)
	for at, x := range l {
		if got := impl.FindItem(l, x.Id); got != at {
			t.Errorf("FindItem of %d = %d, want %d", x.Id, got, at)
		}
		if got := impl.FindItem(l, x.Id+1); got != -1 {
			t.Errorf("FindItem of %d = %d, want -1", x.Id+1, got)
		}
	}
	if impl.FindItem(nil, 0) != -1 || impl.FindItem([]impl.Item{}, 0) != -1 {
		t.Error("found among no items")
	}
}

func TestFindItemInAnyItems(t *testing.T) {
	l := []impl.Item{item(7, 1), item(-3), item(2, 1, 2, 3), item(7, 1, 2, 3), item(100, 99), item(2), item(math.MinInt), item(math.MaxInt, -1)}
	for id, want := range map[int]int{7: 0, -3: 1, 2: 2, 100: 4, math.MinInt: 6, math.MaxInt: 7, 0: -1, 1: -1, -1: -1, 3: -1, 99: -1} {
		if got := impl.FindItem(l, id); got != want {
			t.Errorf("FindItem of %d = %d, want %d", id, got, want)
		}
	}
	long := append(validItems(30), item(-5))
	if impl.FindItem(long, 88) != 29 || impl.FindItem(long, -5) != 30 || impl.FindItem(long, -1) != -1 {
		t.Error("FindItem in many items")
	}
}

func TestIdsOf(t *testing.T) {
	if len(impl.IdsOf(nil)) != 0 || len(impl.IdsOf([]impl.Item{})) != 0 {
		t.Error("Ids of no items")
	}
	l := []impl.Item{item(7, 1, 2, 3), item(-3), item(7), item(2, 1, 2, 3, 4), item(math.MinInt), item(math.MaxInt, 10), item(0)}
	if got, want := impl.IdsOf(l), []int{7, -3, 7, 2, math.MinInt, math.MaxInt, 0}; !slices.Equal(got, want) {
		t.Errorf("IdsOf = %v, want %v", got, want)
	}
	many := validItems(30)
	got, again := impl.IdsOf(many), impl.IdsOf(many)
	if len(got) != 30 || got[0] != 1 || got[16] != 49 || got[29] != 88 {
		t.Errorf("IdsOf many items = %v", got)
	}
	got[0] = 55
	if again[0] != 1 || many[0].Id != 1 {
		t.Error("the Ids are shared")
	}
}

func TestFormatItem(t *testing.T) {
	for want, x := range map[string]impl.Item{
		"1:2,5,0":  item(1, 2, 5, 0),
		"0:0,0,0":  item(0, 0, 0, 0),
		"99:9,9,9": item(99, 9, 9, 9),
		"10:1,2,3": item(10, 1, 2, 3),
	} {
		if got := impl.FormatItem(x); got != want {
			t.Errorf("FormatItem(%v) = %q, want %q", x, got, want)
		}
	}
	for _, x := range invalidItems() {
		if got := impl.FormatItem(x); got != "" {
			t.Errorf("FormatItem(%v) = %q, want nothing", x, got)
		}
	}
}

func TestItemRoundTrip(t *testing.T) {
	for s, x := range itemsByFormat() {
		if got := impl.FormatItem(x); got != s {
			t.Fatalf("FormatItem(%v) = %q, want %q", x, got, s)
		}
		wantItem(t, s, x, true)
	}
}

func TestParseItemOfAllShortStrings(t *testing.T) {
	all := itemsByFormat()
	for _, s := range append(wordsOver("09:,-", 8), wordsOver(allBytes(), 2)...) {
		x, ok := all[s]
		wantItem(t, s, x, ok)
	}
}

func TestParseItemOfChangedFormats(t *testing.T) {
	all := itemsByFormat()
	check := func(s string) {
		x, ok := all[s]
		wantItem(t, s, x, ok)
	}
	for _, s := range []string{"1:2,5,0", "0:0,0,0", "99:9,9,9", "10:1,2,3"} {
		for at := range len(s) + 1 {
			check(s[:at])
			check(s[at:])
			for b := range 256 {
				c := string([]byte{byte(b)})
				check(s[:at] + c + s[at:])
				if at < len(s) {
					check(s[:at] + c + s[at+1:])
				}
			}
		}
	}
}

func TestParseItemRejects(t *testing.T) {
	for _, s := range []string{
		"", ":", ",", ",,", ":,,", "1", "1:", "1:2", "1:2,3", "1:2,3,", "1:2,3,4,", "1:2,3,4,5", "1:,3,4", "1:2,,4", ":2,3,4", "2,3,4", "1,2,3,4",
		"01:2,3,4", "00:2,3,4", "001:2,3,4", "1:02,3,4", "1:2,03,4", "1:2,3,04", "1:00,0,0", "-0:2,3,4", "1:-0,3,4", "+1:2,3,4", "1:2,+3,4",
		"100:2,3,4", "101:2,3,4", "-1:2,3,4", "1:10,3,4", "1:2,10,4", "1:2,3,10", "1:-1,3,4", "1:2,-1,4", "1:2,3,-1",
		"4294967297:2,3,4", "1:4294967298,3,4", "18446744073709551617:2,3,4", "1:2,3,18446744073709551620", "256:2,3,4", "1:256,3,4",
		"1 2,3,4", "1;2,3,4", "1:2;3;4", "1:2 3 4", "1:2:3:4", "1::2,3,4", "1:1:2,3,4", ":1:2,3,4", "1:2,3,4:", "1:2,3:4",
		" 1:2,3,4", "1:2,3,4 ", "1: 2,3,4", "1 :2,3,4", "1:2, 3,4", "1:2,3,4\n", "\n1:2,3,4", "1:2,3,4\x00", "1:2,3,4\xff", "\ufeff1:2,3,4",
		"1:2,3,4,", ",1:2,3,4", "1:2,3,4 1:2,3,4", "1:2,3,41:2,3,4", "1:2,3,4\n2:2,3,4", "a:2,3,4", "1:a,3,4", "1:2.0,3,4", "１:2,3,4", "1:2,3,４", "0x1:2,3,4",
		"none", "1:none", strings.Repeat("1", 500) + ":2,3,4", "1:" + strings.Repeat("2,", 500) + "2", strings.Repeat(":", 500),
	} {
		wantItem(t, s, impl.Item{}, false)
	}
}

func TestParseItemResultsShareNoMemory(t *testing.T) {
	x, _ := impl.ParseItem("1:2,5,0")
	y, _ := impl.ParseItem("1:2,5,0")
	if len(x.Values) != impl.FieldCount || len(y.Values) != impl.FieldCount {
		t.Fatalf("ParseItem = %v and %v", x, y)
	}
	x.Values[0] = 7
	if y.Values[0] != 2 {
		t.Error("the values are shared")
	}
}

func TestEqualItems(t *testing.T) {
	for count := range 20 {
		l := validItems(count)
		wantEqual(t, l, copyOfItems(l), true)
		wantEqual(t, l, validItems(count+1), false)
		wantEqual(t, l, validItems(count + 1)[1:], count == 0)
	}
	for at := range 5 {
		l := validItems(5)
		l[at].Id++
		wantEqual(t, l, validItems(5), false)
		for field := range impl.FieldCount {
			l = validItems(5)
			l[at].Values[field]--
			wantEqual(t, l, validItems(5), false)
		}
		l = validItems(5)
		l[at].Values[0], l[at].Values[2] = l[at].Values[2]+1, l[at].Values[0]+1
		wantEqual(t, l, validItems(5), false)
	}
	a := validItems(5)
	a[1], a[2] = a[2], a[1]
	wantEqual(t, a, validItems(5), false)
	wantEqual(t, nil, []impl.Item{}, true)
	wantEqual(t, nil, []impl.Item{{}}, false)
}

func TestEqualItemsOfAnyItems(t *testing.T) {
	odd := append(invalidItems(), item(0, 0, 0, 0), item(3, 1, 2, 3), item(3, 1, 2, 3, 4, 5, 6), item(3, 1, 2, 3, 4, 5, 7), item(3, 1, 2, 3, 4), item(3, 1, 2), item(3, 1, 2, 0), item(3, 0, 0, 0), item(3))
	for _, x := range odd {
		for _, y := range odd {
			same := x.Id == y.Id && slices.Equal(x.Values, y.Values)
			wantEqual(t, []impl.Item{x}, []impl.Item{y}, same)
			wantEqual(t, []impl.Item{x, y}, []impl.Item{y, x}, same)
		}
	}
	wantEqual(t, odd, copyOfItems(odd), true)
	wantEqual(t, []impl.Item{{Id: 3}}, []impl.Item{{Id: 3, Values: []int{}}}, true)
	wantEqual(t, []impl.Item{{Id: 3}}, []impl.Item{{Id: 3, Values: []int{0, 0, 0}}}, false)
}

func TestItemsAreNotModified(t *testing.T) {
	row := []int{4, 15, -6, 77, 88}
	all := []impl.Item{{Id: 9, Values: row[:3]}, item(5, 1, 2, 3), item(5, 1, 2, 3), item(200, 1)}
	wantRow, wantAll := slices.Clone(row), copyOfItems(all)
	l := all[:2]
	impl.IsItem(l[0])
	impl.AreItems(l)
	impl.FindItem(l, 5)
	impl.IdsOf(l)
	impl.FormatItem(l[0])
	impl.FormatItem(l[1])
	impl.EqualItems(l, all[:3])
	impl.EqualItems(l, l)
	if !slices.Equal(row, wantRow) || !reflect.DeepEqual(all, wantAll) {
		t.Errorf("the items became %v with %v", all, row)
	}
}
