package maglev_test

import (
	"fmt"
	"math"
	"slices"
	"strings"
	"testing"

	"weighbridge/api"
	"weighbridge/maglev"
	"weighbridge/perm"
)

// of tells a list of names and weights, one after the other.
func of(pairs ...any) []api.Weighted {
	var list []api.Weighted
	for i := 0; i+1 < len(pairs); i += 2 {
		list = append(list, api.Weighted{Name: pairs[i].(string), Weight: pairs[i+1].(int)})
	}
	return list
}

// many tells n backends n0, n1, ..., each with the weight of its number.
func many(n int, weight func(i int) int) []api.Weighted {
	list := make([]api.Weighted, n)
	for i := range list {
		list[i] = api.Weighted{Name: fmt.Sprint("n", i), Weight: weight(i)}
	}
	return list
}

// always tells the same weight for each number.
func always(weight int) func(int) int {
	return func(int) int { return weight }
}

// byName tells the numbers of those with a weight above 0: the one with the least name, and of these the least number, is looked for again and again.
func byName(l []api.Weighted) []int {
	var order []int
	done := make([]bool, len(l))
	for {
		best := -1
		for i, each := range l {
			if !done[i] && each.Weight > 0 && (best < 0 || each.Name < l[best].Name) {
				best = i
			}
		}
		if best < 0 {
			return order
		}
		done[best] = true
		order = append(order, best)
	}
}

// turned makes a table by the words: turns, in each one those that take part by their names, each one as many of the next free slots of its permutation as its weight.
func turned(l []api.Weighted, m int) []int {
	table := make([]int, m)
	for i := range table {
		table[i] = -1
	}
	order := byName(l)
	ways := make([][]int, len(l))
	for _, i := range order {
		p, _ := perm.Of(l[i].Name, m)
		ways[i] = slices.Collect(perm.Slots(p))
	}
	for len(order) > 0 && slices.Contains(table, -1) {
		for _, i := range order {
			for left := l[i].Weight; left > 0 && len(ways[i]) > 0; ways[i] = ways[i][1:] {
				if table[ways[i][0]] == -1 {
					table[ways[i][0]] = i
					left--
				}
			}
		}
	}
	return table
}

// folded tells one number of a table: any other slot's backend would give another one.
func folded(table []int) uint64 {
	n := uint64(14695981039346656037)
	for _, number := range table {
		n = (n ^ uint64(number+1)) * 1099511628211
	}
	return n
}

// some are lists that may be for tables of these sizes: of one backend to 16, with weights of 0 and of 100 among them, and a sum of just the size.
func some() []struct {
	list []api.Weighted
	m    int
} {
	return []struct {
		list []api.Weighted
		m    int
	}{
		{nil, 7}, {[]api.Weighted{}, 97}, {of("a", 0), 7}, {of("a", 0, "b", 0), 11},
		{of("a", 1), 7}, {of("a", 7), 7}, {of("a", 3), 7}, {of("a", 1, "b", 1), 7}, {of("b", 1, "a", 1), 7}, {of("a", 2, "b", 1), 7}, {of("a", 3, "b", 4), 7}, {of("b", 1, "a", 6), 7},
		{of("x", 1, "y", 1, "z", 1, "a", 1, "b", 1, "c", 1, "d", 1), 7},
		{of("b", 1, "a", 2, "c", 0), 7}, {of("web2", 0, "web10", 2, "web1", 1, "web3", 4), 13},
		{of("\xff", 1, "z", 2, "Z", 3, "zz", 1), 11}, {of("\x00", 5, " ", 4, "sixteen bytes, a", 2), 11},
		{many(16, always(1)), 17}, {many(16, always(6)), 97}, {many(16, func(i int) int { return i }), 127}, {many(16, func(i int) int { return 15 - i }), 131},
		{many(16, func(i int) int { return i * 6 % 101 }), 997}, {many(16, func(i int) int { return i * 37 % 101 }), 1009}, {many(16, always(100)), 1601},
		{of("heavy", 100, "light", 1), 101}, {of("light", 1, "heavy", 100), 8191}, {many(5, func(i int) int { return i * i }), 4099}, {many(9, always(11)), 101},
	}
}

// P19.1: Table tells tables that were worked out apart from this program.
func TestTableKnown(t *testing.T) {
	for _, c := range []struct {
		list []api.Weighted
		want []int
	}{
		{of("a", 1, "b", 1), []int{0, 1, 1, 0, 1, 0, 0}},
		{of("b", 1, "a", 1), []int{1, 0, 0, 1, 0, 1, 1}},
		{of("a", 2, "b", 1), []int{0, 1, 1, 0, 0, 0, 0}},
		{of("a", 3, "b", 4), []int{0, 1, 1, 0, 1, 0, 1}},
		{of("b", 1, "a", 2, "c", 0), []int{1, 0, 0, 1, 1, 1, 1}},
		{of("a", 0), []int{-1, -1, -1, -1, -1, -1, -1}},
		{of("a", 1), []int{0, 0, 0, 0, 0, 0, 0}},
		{of("a", 7), []int{0, 0, 0, 0, 0, 0, 0}},
		{of("x", 1, "y", 1, "z", 1, "a", 1, "b", 1, "c", 1, "d", 1), []int{3, 4, 1, 0, 2, 5, 6}},
		{of("web1", 3, "web2", 1), []int{0, 1, 0, 0, 0, 0, 0, 0, 0, 0, 1}},
		{of("\xff", 1, "z", 2, "Z", 3, "zz", 1), []int{2, 2, 1, 1, 3, 0, 2, 2, 1, 2, 2}},
		{of("web2", 0, "web10", 2, "web1", 1, "web3", 4), []int{1, 3, 3, 1, 3, 1, 2, 2, 3, 3, 3, 1, 3}},
	} {
		if got, err := maglev.Table(c.list, len(c.want)); err != api.OK || !slices.Equal(got, c.want) {
			t.Errorf("Table(%v, %d): %v, %d, not %v", c.list, len(c.want), got, err, c.want)
		}
	}
}

// P19.1: so it does of many backends and of many slots, of which one number is held against one that was worked out apart.
func TestTableKnownGreat(t *testing.T) {
	for _, c := range []struct {
		list []api.Weighted
		m    int
		want uint64
	}{
		{many(16, func(i int) int { return i * 6 % 101 }), 997, 0x9ca9c1524a470bb7},
		{many(16, func(i int) int { return i * 37 % 101 }), 1009, 0x5207b062f5a2b407},
		{many(16, always(1)), 65537, 0xd274cac8c0c022a6},
		{many(16, always(100)), 65537, 0x1bff22c389297a43},
		{many(16, always(100)), 1601, 0xea98d5cd4e95e2f8},
		{of("heavy", 100, "light", 1), 101, 0x8239f381d7466fc1},
		{of("heavy", 100, "light", 1), 65537, 0xc783bddf4002a5e4},
		{of("a-name.of_16char", 100, "web1", 1, "off", 0), 65537, 0xd8b664e86e3a4b88},
	} {
		if got, err := maglev.Table(c.list, c.m); err != api.OK || len(got) != c.m || folded(got) != c.want {
			t.Errorf("Table(%v, %d): %d slots, %x, %d, not %x", c.list, c.m, len(got), folded(got), err, c.want)
		}
	}
}

// P19.1: Table makes turns by the words; of a list of which none takes part all slots are -1.
func TestTableByTurns(t *testing.T) {
	for _, c := range some() {
		kept := slices.Clone(c.list)
		got, err := maglev.Table(c.list, c.m)
		if err != api.OK || !slices.Equal(got, turned(c.list, c.m)) {
			t.Errorf("Table(%v, %d): %v, %d, not %v", c.list, c.m, got, err, turned(c.list, c.m))
		}
		if !slices.Equal(kept, c.list) {
			t.Errorf("Table(%v, %d) changed the list to %v", kept, c.m, c.list)
		}
		if again, _ := maglev.Table(c.list, c.m); !slices.Equal(got, again) || &got[0] == &again[0] {
			t.Errorf("Table(%v, %d): another one the second time, or in the same memory", c.list, c.m)
		}
	}
}

// P19.1: so it does of the lists of a walk.
func TestTableWalk(t *testing.T) {
	seed := uint64(19)
	next := func(n int) int {
		seed = seed*6364136223846793005 + 1442695040888963407
		return int(seed >> 33 % uint64(n))
	}
	sizes := []int{7, 11, 13, 17, 31, 97, 211, 503, 1009}
	for range 600 {
		m := sizes[next(len(sizes))]
		most := max(2, m/8)
		list := many(next(17), func(int) int { return next(min(most, 101)) })
		for i := range list {
			list[i].Name = strings.Repeat(list[i].Name, 1+next(3))
		}
		got, err := maglev.Table(list, m)
		if maglev.May(list, m) != (err == api.OK) {
			t.Fatalf("Table(%v, %d): %d, but May: %v", list, m, err, maglev.May(list, m))
		}
		if err == api.OK && !slices.Equal(got, turned(list, m)) {
			t.Fatalf("Table(%v, %d): %v, not %v", list, m, got, turned(list, m))
		}
	}
}

// P19.1: May tells true up to the bounds, and false behind each of them; Table tells ErrArg then, and no table.
func TestMay(t *testing.T) {
	last := func(b api.Weighted) []api.Weighted { return append(many(15, always(0)), b) }
	for _, c := range []struct {
		say  string
		list []api.Weighted
		m    int
		want bool
	}{
		{"no backends", nil, 7, true},
		{"an empty list", []api.Weighted{}, 65537, true},
		{"16 backends", many(16, always(1)), 97, true},
		{"17 backends", many(17, always(1)), 97, false},
		{"17 backends of weight 0", many(17, always(0)), 97, false},
		{"thousands of backends", many(5000, always(0)), 65537, false},
		{"a name of 1 byte", of("a", 1), 7, true},
		{"a name of 16 bytes", of("0123456789abcdef", 1), 7, true},
		{"a name of 17 bytes", of("0123456789abcdefg", 1), 7, false},
		{"a name of 9 characters of 2 bytes", of("äääääääää", 1), 7, false},
		{"a name of 8 characters of 2 bytes", of("ääääääää", 1), 7, true},
		{"a long name", of(strings.Repeat("n", 100000), 1), 7, false},
		{"an empty name", of("", 1), 7, false},
		{"an empty name of weight 0", of("a", 1, "", 0), 7, false},
		{"any bytes in a name", of("\x00", 1, "\xff\xfe", 1, " ", 1), 7, true},
		{"a name twice", of("a", 1, "a", 1), 7, false},
		{"a name twice, of weight 0", of("a", 0, "a", 0), 7, false},
		{"a name twice, first and last", of("a", 1, "b", 1, "c", 1, "a", 2), 7, false},
		{"names like one another", of("a", 1, "A", 1, "a ", 1, "aa", 1), 7, true},
		{"the last name twice", last(api.Weighted{Name: "n14"}), 97, false},
		{"the last name too long", last(api.Weighted{Name: "0123456789abcdefg"}), 97, false},
		{"the last weight below 0", last(api.Weighted{Name: "z", Weight: -1}), 97, false},
		{"a weight of 0", of("a", 0), 7, true},
		{"a weight below 0", of("a", -1), 7, false},
		{"a weight below 0 and one above", of("a", -1, "b", 8), 7, false},
		{"the least weight", of("a", math.MinInt), 7, false},
		{"the greatest weight", of("a", math.MaxInt), 65537, false},
		{"the greatest weights, round about", of("a", math.MaxInt, "b", math.MaxInt, "c", 9), 65537, false},
		{"a weight of 100", of("a", 100), 101, true},
		{"a weight of 101", of("a", 101), 101, false},
		{"a weight of 101 in many slots", of("a", 101), 65537, false},
		{"a sum of just the size", of("a", 3, "b", 4), 7, true},
		{"a sum of one more", of("a", 4, "b", 4), 7, false},
		{"a sum of one more, of those with 0 among them", of("a", 3, "b", 0, "c", 5), 7, false},
		{"one of just the size", of("a", 7), 7, true},
		{"one of one more", of("a", 8), 7, false},
		{"the greatest sum", many(16, always(100)), 1601, true},
		{"the greatest sum in fewer slots", many(16, always(100)), 1597, false},
		{"the greatest sum in most slots", many(16, always(100)), 65537, true},
		{"the least size", of("a", 1), 7, true},
		{"the greatest size", of("a", 1), 65537, true},
	} {
		check(t, c.say, c.list, c.m, c.want)
	}
	for _, m := range []int{math.MinInt, -7, -1, 0, 1, 2, 3, 5, 6, 8, 9, 49, 98, 1001, 65535, 65536, 65538, 65539, 1048573, math.MaxInt32, math.MaxInt} {
		check(t, "no size", of("a", 1), m, false)
		check(t, "no size and no backends", nil, m, false)
	}
}

// check holds May and Table against what is wanted.
func check(t *testing.T, say string, list []api.Weighted, m int, want bool) {
	t.Helper()
	if got := maglev.May(list, m); got != want {
		t.Errorf("%s: May for %d: %v", say, m, got)
	}
	table, err := maglev.Table(list, m)
	if want && (err != api.OK || len(table) != m) || !want && (err != api.ErrArg || table != nil) {
		t.Errorf("%s: Table for %d: %d slots, %d", say, m, len(table), err)
	}
}

// P19.1: Order tells the numbers of those with a weight above 0, by the bytes of their names, of the same names the lesser number first; of any list.
func TestOrder(t *testing.T) {
	for _, c := range []struct {
		list []api.Weighted
		want []int
	}{
		{nil, nil},
		{[]api.Weighted{}, nil},
		{of("a", 0, "b", 0), nil},
		{of("a", -1, "b", math.MinInt), nil},
		{of("a", 1), []int{0}},
		{of("b", 1, "a", 2, "c", 0), []int{1, 0}},
		{of("c", 1, "a", 0, "b", 1, "a", 1), []int{3, 2, 0}},
		{of("n2", 1, "n10", 1, "n1", 1, "n", 1), []int{3, 2, 1, 0}},
		{of("z", 1, "Z", 1, "ä", 1, "\xff", 1, "\x00", 1, "", 1), []int{5, 4, 1, 0, 2, 3}},
		{of("a", 3, "a", 1, "a", 0, "a", 2), []int{0, 1, 3}},
		{of("b", 1, "a", 9, "b", 9, "a", 1, "b", 5), []int{1, 3, 0, 2, 4}},
		{of("", 1, "", -1, "", 1), []int{0, 2}},
		{of("a", 101, "b", math.MaxInt, "a", -5), []int{0, 1}},
		{of(strings.Repeat("b", 1000), 1, strings.Repeat("b", 999), 1), []int{1, 0}},
	} {
		kept := slices.Clone(c.list)
		if got := maglev.Order(c.list); !slices.Equal(got, c.want) {
			t.Errorf("Order(%v): %v, not %v", c.list, got, c.want)
		}
		if !slices.Equal(kept, c.list) {
			t.Errorf("Order(%v) changed the list to %v", kept, c.list)
		}
	}
}

// P19.1: so it does of long lists, in which names come again and again.
func TestOrderLong(t *testing.T) {
	list := make([]api.Weighted, 1000)
	for i := range list {
		list[i] = api.Weighted{Name: fmt.Sprint(i * 7 % 31), Weight: i*11%7 - 1}
	}
	if got, want := maglev.Order(list), byName(list); !slices.Equal(got, want) {
		t.Errorf("%v, not %v", got, want)
	}
}

// P19.1: Shares tells how many slots each of n backends has, and none of n below 1 or above 16.
func TestShares(t *testing.T) {
	table := []int{0, 2, 2, -1, 15, 0, 16, 2, math.MinInt, math.MaxInt, 3}
	kept := slices.Clone(table)
	for n, want := range map[int][]int{
		math.MinInt: nil, -1: nil, 0: nil, 17: nil, 18: nil, math.MaxInt: nil,
		1: {2}, 2: {2, 0}, 3: {2, 0, 3}, 4: {2, 0, 3, 1}, 15: {2, 0, 3, 1, 0, 0, 0, 0, 0, 0, 0, 0, 0, 0, 0},
		16: {2, 0, 3, 1, 0, 0, 0, 0, 0, 0, 0, 0, 0, 0, 0, 1},
	} {
		if got := maglev.Shares(table, n); !slices.Equal(got, want) || (got == nil) != (want == nil) {
			t.Errorf("Shares of %d: %v, not %v", n, got, want)
		}
	}
	if !slices.Equal(table, kept) {
		t.Errorf("the table was changed to %v", table)
	}
	for _, none := range [][]int{nil, {}, {-1, -1, 3}} {
		if got := maglev.Shares(none, 3); !slices.Equal(got, []int{0, 0, 0}) {
			t.Errorf("Shares(%v, 3): %v", none, got)
		}
	}
}

// P19.1: the examples.
func TestExamples(t *testing.T) {
	for _, c := range []struct {
		list []api.Weighted
		want []int
	}{{of("a", 1, "b", 1), []int{4, 3}}, {of("a", 2, "b", 1), []int{5, 2}}, {of("a", 0), []int{0}}} {
		table, err := maglev.Table(c.list, 7)
		if got := maglev.Shares(table, len(c.list)); err != api.OK || !slices.Equal(got, c.want) {
			t.Errorf("%v: %v, %d, not %v", c.list, got, err, c.want)
		}
	}
}

// P19.2: no slot is -1, if some take part; slots over weight differ by at most 1; who does not take part has none.
func TestFair(t *testing.T) {
	for _, c := range append(some(), []struct {
		list []api.Weighted
		m    int
	}{{many(16, always(100)), 65537}, {of("heavy", 100, "light", 1), 65537}, {many(16, func(i int) int { return i % 3 }), 65537}}...) {
		table, _ := maglev.Table(c.list, c.m)
		part := len(maglev.Order(c.list)) > 0
		if len(table) != c.m || slices.Contains(table, -1) == part {
			t.Errorf("%v of %d slots: %d slots, -1 among them: %v", c.list, c.m, len(table), slices.Contains(table, -1))
		}
		shares, sum := maglev.Shares(table, max(len(c.list), 1)), 0
		for i, a := range c.list {
			sum += shares[i]
			if a.Weight == 0 && shares[i] != 0 {
				t.Errorf("%v of %d slots: %s has %d", c.list, c.m, a.Name, shares[i])
			}
			for j, b := range c.list {
				if a.Weight > 0 && b.Weight > 0 && shares[i]*b.Weight-shares[j]*a.Weight > a.Weight*b.Weight {
					t.Errorf("%v of %d slots: %s has %d, %s has %d", c.list, c.m, a.Name, shares[i], b.Name, shares[j])
				}
			}
		}
		if part && sum != c.m {
			t.Errorf("%v of %d slots: %d are taken by some of the list", c.list, c.m, sum)
		}
	}
}

// P19.2: in another order of the list, and with backends of weight 0 among it, each slot has the same name.
func TestNamesAlone(t *testing.T) {
	for _, c := range some() {
		want := names(c.list, c.m)
		other := slices.Clone(c.list)
		slices.Reverse(other)
		if !slices.Equal(names(other, c.m), want) {
			t.Errorf("%v of %d slots: not so in the order %v", c.list, c.m, other)
		}
		for i := range other {
			other = append(other[1:], other[0])
			if i%3 == 0 && !slices.Equal(names(other, c.m), want) {
				t.Errorf("%v of %d slots: not so in the order %v", c.list, c.m, other)
			}
		}
		if len(other) < api.MaxBackends {
			other = append([]api.Weighted{{Name: "mmm"}}, other...)
			if !slices.Equal(names(other, c.m), want) {
				t.Errorf("%v of %d slots: not so with one of weight 0", c.list, c.m)
			}
		}
	}
}

// names tells the name that each slot of a list's table has.
func names(l []api.Weighted, m int) []string {
	table, _ := maglev.Table(l, m)
	list := make([]string, len(table))
	for slot, number := range table {
		if number >= 0 {
			list[slot] = l[number].Name
		}
	}
	return list
}
