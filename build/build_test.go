package build_test

import (
	"fmt"
	"math"
	"slices"
	"strings"
	"testing"

	"weighbridge/api"
	"weighbridge/build"
	"weighbridge/maglev"
	"weighbridge/perm"
)

// of tells a list of names and weights, one after the other; each one's life hangs on its number.
func of(pairs ...any) []api.Target {
	var list []api.Target
	for i := 0; i+1 < len(pairs); i += 2 {
		list = append(list, api.Target{Name: pairs[i].(string), Weight: pairs[i+1].(int), Life: uint64(100 + i)})
	}
	return list
}

// many tells n targets n0, n1, ..., each with the weight of its number.
func many(n int, weight func(i int) int) []api.Target {
	list := make([]api.Target, n)
	for i := range list {
		list[i] = api.Target{Name: fmt.Sprint("n", i), Weight: weight(i), Life: uint64(i)}
	}
	return list
}

// always tells the same weight for each number.
func always(weight int) func(int) int {
	return func(int) int { return weight }
}

// lived tells a list all of whose targets are in a life.
func lived(l []api.Target, life uint64) []api.Target {
	list := slices.Clone(l)
	for i := range list {
		list[i].Life = life
	}
	return list
}

// made tells a builder that may be.
func made(t *testing.T, m int) *build.Builder {
	t.Helper()
	b, err := build.New(m)
	if err != api.OK || b == nil {
		t.Fatal("New", m, err)
	}
	return b
}

// ran runs a list that may be, and tells whether a table was published.
func ran(t *testing.T, b *build.Builder, l []api.Target, units int) bool {
	t.Helper()
	published, err := b.Run(l, units)
	if err != api.OK {
		t.Fatal("Run", l, units, err)
	}
	return published
}

// built tells a builder that published a list.
func built(t *testing.T, l []api.Target, m int) *build.Builder {
	t.Helper()
	b := made(t, m)
	b.Mark()
	if !ran(t, b, l, math.MaxInt) {
		t.Fatal("nothing is published of", l)
	}
	return b
}

// shown is all that a builder tells of itself; of a slot without a target the table has a zero one.
type shown struct {
	marked, busy bool
	version      uint64
	list, table  []api.Target
}

// show tells all that a builder of m slots tells of itself, and fails if At tells otherwise than Slots.
func show(t *testing.T, b *build.Builder, m int) shown {
	t.Helper()
	s := shown{marked: b.Marked(), busy: b.Busy(), version: b.Version(), list: b.List(), table: make([]api.Target, m)}
	last := -1
	for slot, each := range b.Slots() {
		if slot <= last || slot >= m || each == (api.Target{}) {
			t.Fatalf("Slots tells slot %d of %d behind %d: %v", slot, m, last, each)
		}
		s.table[slot], last = each, slot
	}
	for slot, each := range s.table {
		if got, ok := b.At(slot); got != each || ok != (each != api.Target{}) {
			t.Fatalf("At %d: %v, %v, but Slots: %v", slot, got, ok, each)
		}
	}
	return s
}

// same tells whether builders tell the same.
func (s shown) same(o shown) bool {
	return s.marked == o.marked && s.busy == o.busy && s.version == o.version && slices.Equal(s.list, o.list) && slices.Equal(s.table, o.table)
}

// told tells what a builder tells that is at rest, and published a list with this version.
func told(l []api.Target, m int, version uint64) shown {
	return shown{version: version, list: l, table: tableOf(l, m)}
}

// tableOf tells layer 19's table of a list, as its targets.
func tableOf(l []api.Target, m int) []api.Target {
	numbers, _ := maglev.Table(weighted(l), m)
	table := make([]api.Target, m)
	for slot, number := range numbers {
		if number >= 0 {
			table[slot] = l[number]
		}
	}
	return table
}

// weighted tells a list's names and weights.
func weighted(l []api.Target) []api.Weighted {
	var list []api.Weighted
	for _, each := range l {
		list = append(list, api.Weighted{Name: each.Name, Weight: each.Weight})
	}
	return list
}

// takePart tells how many of a list take part.
func takePart(l []api.Target) int {
	n := 0
	for _, each := range l {
		if each.Weight > 0 {
			n++
		}
	}
	return n
}

// builds are lists that may be, and how many units their builds have, which were counted apart from this program.
func builds() []struct {
	list     []api.Target
	m, units int
} {
	return []struct {
		list     []api.Target
		m, units int
	}{
		{nil, 7, 0},
		{[]api.Target{}, 97, 0},
		{of("a", 0), 7, 0},
		{many(16, always(0)), 7, 0},
		{of("a", 1), 7, 8},
		{of("a", 7), 7, 8},
		{of("a", 1, "b", 1), 7, 11},
		{of("b", 1, "a", 1), 7, 11},
		{of("a", 2, "b", 1), 7, 10},
		{of("a", 3, "b", 4), 7, 11},
		{of("b", 1, "a", 2, "c", 0), 7, 10},
		{of("x", 1, "y", 1, "z", 1, "a", 1, "b", 1, "c", 1, "d", 1), 7, 17},
		{of("web1", 3, "web2", 1), 11, 17},
		{of("web2", 0, "web10", 2, "web1", 1, "web3", 4), 13, 24},
		{many(16, always(1)), 17, 55},
		{many(16, always(6)), 97, 349},
		{many(16, func(i int) int { return i * 37 % 101 }), 1009, 3774},
		{many(16, always(100)), 1601, 5700},
		{of("one", 1), 65537, 65538},
		{of("heavy", 100, "light", 1), 65537, 69487},
		{many(16, always(1)), 65537, 553754},
		{many(16, always(100)), 65537, 409773},
	}
}

// P20.1: New tells a builder of each size, and ErrArg of all other numbers.
func TestNew(t *testing.T) {
	for _, m := range []int{7, 11, 13, 97, 251, 1009, 32749, 65521, 65537} {
		made(t, m)
	}
	for _, m := range []int{math.MinInt, -7, -1, 0, 1, 2, 3, 5, 6, 8, 9, 10, 49, 98, 1001, 65535, 65536, 65538, 65539, 1048573, math.MaxInt32, math.MaxInt} {
		if b, err := build.New(m); b != nil || err != api.ErrArg {
			t.Errorf("New(%d): %v, %d", m, b, err)
		}
	}
}

// P20.1, P20.2: a new one has no targets and the version 0; it is not marked, and no build is on.
func TestNewHasNothing(t *testing.T) {
	for _, m := range []int{7, 97, 65537} {
		b := made(t, m)
		if got := show(t, b, m); !got.same(shown{table: make([]api.Target, m)}) {
			t.Errorf("a new one of %d: %v", m, got)
		}
		for slot := range b.Slots() {
			t.Fatal("it has slot", slot)
		}
	}
}

// bounds are lists that may be and that may not, for so many slots.
func bounds() []struct {
	say  string
	list []api.Target
	m    int
	want bool
} {
	last := func(b api.Target) []api.Target { return append(many(15, always(0)), b) }
	return []struct {
		say  string
		list []api.Target
		m    int
		want bool
	}{
		{"no targets", nil, 7, true},
		{"an empty list", []api.Target{}, 65537, true},
		{"16 targets", many(16, always(1)), 97, true},
		{"17 targets", many(17, always(1)), 97, false},
		{"17 targets of weight 0", many(17, always(0)), 97, false},
		{"thousands of targets", many(5000, always(0)), 65537, false},
		{"a name of 1 byte", of("a", 1), 7, true},
		{"a name of 16 bytes", of("0123456789abcdef", 1), 7, true},
		{"a name of 17 bytes", of("0123456789abcdefg", 1), 7, false},
		{"a name of 9 characters of 2 bytes", of("äääääääää", 1), 7, false},
		{"a long name", of(strings.Repeat("n", 100000), 1), 7, false},
		{"an empty name", of("", 1), 7, false},
		{"an empty name of weight 0", of("a", 1, "", 0), 7, false},
		{"any bytes in a name", of("\x00", 1, "\xff\xfe", 1, " ", 1), 7, true},
		{"a name twice, in two lives", of("a", 1, "a", 1), 7, false},
		{"a name twice, in one life", lived(of("a", 1, "a", 1), 3), 7, false},
		{"a name twice, of weight 0", of("a", 0, "a", 0), 7, false},
		{"two names in one life", lived(of("a", 1, "b", 1), 3), 7, true},
		{"the greatest life", lived(of("a", 1), math.MaxUint64), 7, true},
		{"the last name twice", last(api.Target{Name: "n14"}), 97, false},
		{"the last weight below 0", last(api.Target{Name: "z", Weight: -1}), 97, false},
		{"the last one as it may be", last(api.Target{Name: "z", Weight: 97}), 97, true},
		{"a weight below 0 and one above", of("a", -1, "b", 8), 7, false},
		{"the least weight", of("a", math.MinInt), 7, false},
		{"the greatest weight", of("a", math.MaxInt), 65537, false},
		{"the greatest weights, round about", of("a", math.MaxInt, "b", math.MaxInt, "c", 9), 65537, false},
		{"a weight of 100", of("a", 100), 101, true},
		{"a weight of 101", of("a", 101), 65537, false},
		{"a sum of just the size", of("a", 3, "b", 4), 7, true},
		{"a sum of one more", of("a", 4, "b", 4), 7, false},
		{"the greatest sum", many(16, always(100)), 1601, true},
		{"the greatest sum in fewer slots", many(16, always(100)), 1597, false},
	}
}

// P20.1: May tells whether layer 19's May holds, and Run tells ErrArg, and does nothing, of a list that may not be.
func TestMay(t *testing.T) {
	for _, c := range bounds() {
		if got := build.May(c.list, c.m); got != c.want || got != maglev.May(weighted(c.list), c.m) {
			t.Errorf("%s: May for %d: %v", c.say, c.m, got)
		}
		b := made(t, c.m)
		b.Mark()
		published, err := b.Run(c.list, math.MaxInt)
		if c.want && (!published || err != api.OK || !show(t, b, c.m).same(told(c.list, c.m, 1))) {
			t.Errorf("%s: Run for %d: %v, %d", c.say, c.m, published, err)
		}
		if !c.want && (published || err != api.ErrArg || !show(t, b, c.m).same(shown{marked: true, table: make([]api.Target, c.m)})) {
			t.Errorf("%s: Run for %d: %v, %d", c.say, c.m, published, err)
		}
	}
	for _, m := range []int{math.MinInt, -7, -1, 0, 1, 2, 5, 6, 8, 9, 98, 65536, 65538, 65539, math.MaxInt} {
		if build.May(nil, m) || build.May(of("a", 1), m) {
			t.Errorf("May for %d, which is no size", m)
		}
	}
}

// P20.1: Run tells ErrArg of a list that may not be in each state, and does nothing then, also where a build of another list is on.
func TestRefused(t *testing.T) {
	wrong, right, other := of("a", 4, "b", 4), of("a", 1, "b", 1), of("c", 2)
	for units := range 11 {
		for _, marked := range []bool{false, true} {
			b := built(t, other, 7)
			b.Mark()
			if units > 0 {
				ran(t, b, right, units)
				if marked {
					b.Mark()
				}
			}
			ahead := show(t, b, 7)
			for _, n := range []int{math.MinInt, 0, 1, 1000} {
				if published, err := b.Run(wrong, n); published || err != api.ErrArg {
					t.Fatalf("Run of a wrong list: %v, %d", published, err)
				}
			}
			if got := show(t, b, 7); !got.same(ahead) {
				t.Fatalf("behind %d units a wrong list changed %v to %v", units, ahead, got)
			}
			if ran(t, b, right, 10-units) || !ran(t, b, right, 1) {
				t.Fatalf("behind %d units a wrong list did some", units)
			}
		}
	}
	b := made(t, 7)
	if published, err := b.Run(wrong, 5); published || err != api.ErrArg || !show(t, b, 7).same(shown{table: make([]api.Target, 7)}) {
		t.Error("of one at rest:", published, err)
	}
}

// P20.1, P20.2: Mark marks it, once or many times; a run begins a build just then, and it is marked no more.
func TestMark(t *testing.T) {
	b := made(t, 7)
	list := of("a", 1, "b", 1)
	for _, units := range []int{0, 1, 1000} {
		if ran(t, b, list, units) || b.Busy() || b.Version() != 0 {
			t.Error("a run without a mark began something")
		}
	}
	b.Mark()
	b.Mark()
	if !b.Marked() || b.Busy() || b.Version() != 0 {
		t.Error("marked:", b.Marked(), b.Busy(), b.Version())
	}
	if ran(t, b, list, 0) || b.Marked() || !b.Busy() {
		t.Error("begun:", b.Marked(), b.Busy())
	}
	if !ran(t, b, list, 11) || b.Marked() || b.Busy() || b.Version() != 1 {
		t.Error("done:", b.Marked(), b.Busy(), b.Version())
	}
	for range 5 {
		if ran(t, b, of("c", 1), 1000) || b.Busy() {
			t.Error("a second build without a mark of its own")
		}
	}
	if got := show(t, b, 7); !got.same(told(list, 7, 1)) {
		t.Errorf("published: %v", got)
	}
}

// P20.1, P20.2: a mark that comes while a build is on stays till the build is done, and a later run begins the next one, of its own list.
func TestMarkMeanwhile(t *testing.T) {
	first, second, third := of("a", 1, "b", 1), of("c", 1, "d", 3), of("e", 1)
	for units := range 11 {
		b := made(t, 7)
		b.Mark()
		ran(t, b, first, units)
		b.Mark()
		if !b.Marked() || !b.Busy() {
			t.Fatal("a mark beside a build", b.Marked(), b.Busy())
		}
		if ran(t, b, second, 10-units) || !b.Marked() || !b.Busy() {
			t.Fatal("one unit ahead of its end", b.Marked(), b.Busy())
		}
		if !ran(t, b, second, math.MaxInt) || b.Busy() || !b.Marked() {
			t.Fatal("at its end", b.Busy(), b.Marked())
		}
		want := told(first, 7, 1)
		want.marked = true
		if got := show(t, b, 7); !got.same(want) {
			t.Fatalf("published first: %v", got)
		}
		if !ran(t, b, third, math.MaxInt) || !show(t, b, 7).same(told(third, 7, 2)) {
			t.Fatalf("published then: %v", show(t, b, 7))
		}
	}
}

// P20.1: a build has just as many units as were counted, however great the runs; one that is done does no more.
func TestUnits(t *testing.T) {
	for _, c := range builds() {
		b := made(t, c.m)
		b.Mark()
		if c.units > 0 && ran(t, b, c.list, c.units-1) {
			t.Errorf("%v for %d: published behind %d units", c.list, c.m, c.units-1)
		}
		if got := show(t, b, c.m); c.units > 0 && !got.same(shown{busy: true, table: make([]api.Target, c.m)}) {
			t.Errorf("%v for %d: %v behind %d units", c.list, c.m, got, c.units-1)
		}
		if !ran(t, b, c.list, min(c.units, 1)) {
			t.Errorf("%v for %d: not published behind %d units", c.list, c.m, c.units)
		}
		if got := show(t, b, c.m); !got.same(told(c.list, c.m, 1)) {
			t.Errorf("%v for %d: published %v", c.list, c.m, got)
		}
	}
}

// P20.1, P20.3: what is published, and behind how many units, is independent of how they are cut.
func TestCuts(t *testing.T) {
	for _, c := range builds() {
		for _, each := range []int{1, 2, 3, 5, 7, 10, 11, 12, 16, 17, 18, 100, c.units / 2, c.units - 1, c.units, c.units + 1} {
			if each < 1 || c.units/each > 10000 {
				continue
			}
			b := made(t, c.m)
			b.Mark()
			runs := 1
			for !ran(t, b, c.list, each) {
				runs++
				if ran(t, b, c.list, 0) || ran(t, b, c.list, -1) || !b.Busy() {
					t.Fatalf("%v for %d: a run of no units did some", c.list, c.m)
				}
			}
			if want := max(1, (c.units+each-1)/each); runs != want {
				t.Errorf("%v for %d: %d runs of %d units, not %d", c.list, c.m, runs, each, want)
			}
			if got := show(t, b, c.m); !got.same(told(c.list, c.m, 1)) {
				t.Errorf("%v for %d by %d units: %v", c.list, c.m, each, got)
			}
		}
	}
}

// P20.1: units below 0 are none, down to the least number of them.
func TestUnitsBelowNone(t *testing.T) {
	list := of("a", 1, "b", 1)
	for _, units := range []int{0, -1, -11, math.MinInt32, math.MinInt} {
		b := made(t, 7)
		b.Mark()
		for range 3 {
			if ran(t, b, list, units) || !b.Busy() || b.Marked() {
				t.Errorf("Run of %d units: busy %v, marked %v", units, b.Busy(), b.Marked())
			}
		}
		if ran(t, b, list, 10) || !ran(t, b, list, 1) {
			t.Errorf("Run of %d units did some, or took some back", units)
		}
	}
}

// P20.1: if none takes part, a table without targets is published by the run that begins, whatever its units; its list is published, too.
func TestNoneTakesPart(t *testing.T) {
	for _, list := range [][]api.Target{nil, {}, of("a", 0), of("a", 0, "b", 0), many(16, always(0))} {
		for _, units := range []int{math.MinInt, -1, 0, 1, math.MaxInt} {
			b := built(t, of("c", 1), 7)
			b.Mark()
			if !ran(t, b, list, units) {
				t.Errorf("%v: nothing is published by %d units", list, units)
			}
			if got := show(t, b, 7); !got.same(shown{version: 2, list: list, table: make([]api.Target, 7)}) {
				t.Errorf("%v: %v", list, got)
			}
		}
	}
}

// P20.1, P20.2: while a build is on, what was published stands, whole, and the lists of runs meanwhile count for nothing.
func TestPublishedMeanwhile(t *testing.T) {
	old, next := of("a", 2, "b", 1, "z", 0), of("b", 3, "c", 1)
	b := built(t, old, 13)
	want := told(old, 13, 1)
	b.Mark()
	ran(t, b, next, 0)
	want.busy = true
	for i := 0; ; i++ {
		if got := show(t, b, 13); !got.same(want) {
			t.Fatalf("behind %d units: %v", i, got)
		}
		if ran(t, b, [][]api.Target{nil, old, of("d", 5)}[i%3], 1) {
			break
		}
	}
	if got := show(t, b, 13); !got.same(told(next, 13, 2)) {
		t.Errorf("published: %v", got)
	}
}

// P20.1: the list is published in its own order, and each slot's target with its weight and its life, the same names in another life, too.
func TestLives(t *testing.T) {
	list := of("web2", 2, "web1", 3, "off", 0)
	b := built(t, lived(list, 1), 11)
	first := show(t, b, 11)
	b.Mark()
	ran(t, b, lived(list, math.MaxUint64), 1000)
	second := show(t, b, 11)
	if !first.same(told(lived(list, 1), 11, 1)) || !second.same(told(lived(list, math.MaxUint64), 11, 2)) {
		t.Error(first, second)
	}
	for slot := range 11 {
		if first.table[slot].Name != second.table[slot].Name || first.table[slot].Life != 1 || second.table[slot].Life != math.MaxUint64 {
			t.Error(slot, first.table[slot], second.table[slot])
		}
	}
}

// P20.2: the version counts all that was published, one by one.
func TestVersion(t *testing.T) {
	b := made(t, 7)
	for i := range uint64(300) {
		list := lived(of("a", int(i%3)), i)
		b.Mark()
		if !ran(t, b, list, 8) || !show(t, b, 7).same(told(list, 7, i+1)) {
			t.Fatalf("publication %d: %v", i+1, show(t, b, 7))
		}
	}
}

// P20.1, P20.2: what is handed in is neither changed nor kept, and what is told is the caller's own.
func TestApart(t *testing.T) {
	want := of("b", 1, "a", 2, "c", 0)
	list := slices.Clone(want)
	b := made(t, 7)
	b.Mark()
	for units := range 10 {
		ran(t, b, list, min(units, 1))
		if units == 0 && !slices.Equal(list, want) {
			t.Fatal("the list is changed to", list)
		}
		clear(list)
		list = of("d", 1, "e", 1, "f", 1)
	}
	ran(t, b, list, 1)
	if got := show(t, b, 7); !got.same(told(want, 7, 1)) {
		t.Fatalf("published: %v", got)
	}
	for range 2 {
		clear(b.List())
		for _, each := range b.Slots() {
			each.Name = "other"
		}
		_ = append(b.List()[:0], of("g", 7)...)
		if got := show(t, b, 7); !got.same(told(want, 7, 1)) {
			t.Fatalf("what was told is kept: %v", got)
		}
	}
}

// P20.2: Slots tells all slots that have a target, rising, as far as it is asked for, each time anew, by what is published then.
func TestSlots(t *testing.T) {
	first, second := of("a", 2, "b", 1), of("c", 1)
	b := made(t, 97)
	all := b.Slots()
	for slot := range all {
		t.Fatal("slot", slot, "ahead of all tables")
	}
	b.Mark()
	ran(t, b, first, 10000)
	for most := range 98 {
		n := 0
		for slot, each := range all {
			if slot != n || each != tableOf(first, 97)[slot] {
				t.Fatalf("slot %d, %v, the %d-th one", slot, each, n)
			}
			n++
			if n >= most {
				break
			}
		}
		if n != max(most, 1) {
			t.Fatalf("%d slots, not %d", n, most)
		}
	}
	n := 0
	for slot := range all {
		for within := range all {
			if within == slot {
				n++
			}
		}
	}
	if n != 97 {
		t.Error("slots within slots:", n)
	}
	b.Mark()
	ran(t, b, second, 10000)
	for slot, each := range all {
		if each != second[0] {
			t.Error(slot, each)
		}
	}
}

// P20.2: a table that is published while slots are gone over leaves that ranging at the table it began with; the next one tells the new one.
func TestSlotsMeanwhile(t *testing.T) {
	for _, second := range [][]api.Target{nil, of("c", 1), many(16, always(1))} {
		first := of("a", 2, "b", 1, "x", 1)
		b := built(t, first, 97)
		n := 0
		for slot, each := range b.Slots() {
			if each != tableOf(first, 97)[slot] {
				t.Fatal(slot, each)
			}
			if slot == 3 {
				b.Mark()
				ran(t, b, second, 10000)
			}
			n++
		}
		if n != 97 || !show(t, b, 97).same(told(second, 97, 2)) {
			t.Error(n, show(t, b, 97))
		}
	}
}

// P20.2: a function that is not there is told nothing.
func TestSlotsOfNoFunction(t *testing.T) {
	made(t, 7).Slots()(nil)
	built(t, of("a", 1), 7).Slots()(nil)
}

// P20.2: At tells the targets of slots that there are, and nothing of others, nor of those that have none.
func TestAt(t *testing.T) {
	with, without := built(t, of("a", 1), 7), built(t, of("a", 0), 7)
	for _, slot := range []int{math.MinInt, -7, -1, 7, 8, 14, 65537, math.MaxInt32, math.MaxInt} {
		for _, b := range []*build.Builder{with, without, made(t, 7)} {
			if each, ok := b.At(slot); ok || each != (api.Target{}) {
				t.Errorf("At %d: %v, %v", slot, each, ok)
			}
		}
	}
	for slot := range 7 {
		if each, ok := with.At(slot); !ok || each != of("a", 1)[0] {
			t.Errorf("At %d: %v, %v", slot, each, ok)
		}
		if each, ok := without.At(slot); ok || each != (api.Target{}) {
			t.Errorf("At %d, which has none: %v, %v", slot, each, ok)
		}
	}
}

// P20.2: a copy is just like it, at each unit of a build, marked or not, and each of both goes its own way.
func TestCopy(t *testing.T) {
	old, list := of("z", 1, "y", 0), of("web2", 0, "web10", 2, "web1", 1, "web3", 4)
	for units := range 24 {
		for _, first := range []bool{false, true} {
			b := built(t, old, 13)
			b.Mark()
			ran(t, b, list, units)
			one, other := b, b.Copy()
			if first {
				one, other = other, one
			}
			ahead := show(t, other, 13)
			if !show(t, one, 13).same(ahead) {
				t.Fatal("a copy unlike it", show(t, one, 13), ahead)
			}
			one.Mark()
			if ran(t, one, nil, 23-units) || !ran(t, one, nil, 1) || !ran(t, one, of("n", 1), 1000) {
				t.Fatalf("behind %d units one did not go on as it was", units)
			}
			if !show(t, other, 13).same(ahead) || !show(t, one, 13).same(told(of("n", 1), 13, 3)) {
				t.Fatalf("behind %d units: %v, %v", units, show(t, other, 13), show(t, one, 13))
			}
			if ran(t, other, nil, 23-units) || !ran(t, other, nil, 1) || !show(t, other, 13).same(told(list, 13, 2)) {
				t.Fatalf("behind %d units the other one did not go on as it was: %v", units, show(t, other, 13))
			}
		}
	}
}

// P20.2: a copy of one that is at rest has its mark, its list and its table, and memory of its own.
func TestCopyAtRest(t *testing.T) {
	list := of("a", 2, "b", 1)
	b := built(t, list, 7)
	unmarked := b.Copy()
	b.Mark()
	marked := b.Copy()
	clear(marked.List())
	if unmarked.Marked() || !marked.Marked() || !show(t, unmarked, 7).same(told(list, 7, 1)) {
		t.Error(unmarked.Marked(), marked.Marked(), show(t, unmarked, 7))
	}
	marked.Run(of("c", 1), 1000)
	if !b.Marked() || b.Version() != 1 || marked.Marked() || marked.Version() != 2 {
		t.Error("a copy's run is the other's")
	}
	if fresh := made(t, 97).Copy(); !show(t, fresh, 97).same(shown{table: make([]api.Target, 97)}) {
		t.Error("a copy of a new one:", show(t, fresh, 97))
	}
}

// P20.1, P20.2, P1: one that is not there, or was not made, tells ErrNil, of lists that may not be, too, or nothing, and is not marked.
func TestWhatIsNotThere(t *testing.T) {
	for _, b := range []*build.Builder{nil, {}, new(build.Builder)} {
		for range 2 {
			for _, list := range [][]api.Target{nil, of("a", 1), of("", -1), many(17, always(200))} {
				for _, units := range []int{math.MinInt, 0, 1, math.MaxInt} {
					if published, err := b.Run(list, units); published || err != api.ErrNil {
						t.Fatal("Run", published, err)
					}
				}
			}
			if b.Marked() || b.Busy() || b.Version() != 0 || len(b.List()) != 0 || b.Copy() != nil {
				t.Fatal("it tells something")
			}
			for _, slot := range []int{math.MinInt, -1, 0, 1, 6, math.MaxInt} {
				if each, ok := b.At(slot); ok || each != (api.Target{}) {
					t.Fatal("At", slot, each)
				}
			}
			all := b.Slots()
			for slot := range all {
				t.Fatal("slot", slot)
			}
			all(nil)
			b.Mark()
		}
	}
}

// P20.1: the examples.
func TestExamples(t *testing.T) {
	list := of("a", 1, "b", 1)
	b := made(t, 7)
	b.Mark()
	if ran(t, b, list, 2) || !b.Busy() {
		t.Error("both are set up:", b.Busy())
	}
	if !ran(t, b, list, 100) || b.Busy() || b.Version() != 1 {
		t.Error("published:", b.Busy(), b.Version())
	}
	names := ""
	for _, each := range b.Slots() {
		names += each.Name
	}
	if names != "abbabaa" {
		t.Error("slots of", names)
	}
}

// A model is a builder by the chapter's words.
type model struct {
	marked  bool
	version uint64
	list    []api.Target
	slots   []int
	on      *works
}

// works is a build by the words; each one that is set up has the slots of its permutation that it did not look at yet.
type works struct {
	list     []api.Target
	slots    []int
	order    []int
	ways     [][]int
	who, got int
}

// begun tells works of which nothing is done: those that take part are put in their order one by one, each ahead of the first one with a greater name.
func begun(l []api.Target, m int) *works {
	w := &works{list: slices.Clone(l), slots: slices.Repeat([]int{-1}, m)}
	for i, each := range l {
		if each.Weight > 0 {
			at := 0
			for at < len(w.order) && l[w.order[at]].Name < each.Name {
				at++
			}
			w.order = slices.Insert(w.order, at, i)
		}
	}
	return w
}

// done tells whether no slot is free, or none takes part.
func (w *works) done() bool {
	return len(w.order) == 0 || !slices.Contains(w.slots, -1)
}

// unit does one unit.
func (w *works) unit() {
	if len(w.ways) < len(w.order) {
		p, _ := perm.Of(w.list[w.order[len(w.ways)]].Name, len(w.slots))
		w.ways = append(w.ways, slices.Collect(perm.Slots(p)))
		return
	}
	number, slot := w.order[w.who], w.ways[w.who][0]
	w.ways[w.who] = w.ways[w.who][1:]
	if w.slots[slot] >= 0 {
		return
	}
	w.slots[slot] = number
	if w.got++; w.got == w.list[number].Weight {
		w.who, w.got = (w.who+1)%len(w.order), 0
	}
}

// run runs by the words.
func (m *model) run(l []api.Target, units int) bool {
	if m.on == nil && m.marked {
		m.marked = false
		m.on = begun(l, len(m.slots))
	}
	if m.on == nil {
		return false
	}
	for ; units > 0 && !m.on.done(); units-- {
		m.on.unit()
	}
	if !m.on.done() {
		return false
	}
	m.list, m.slots, m.on = m.on.list, m.on.slots, nil
	m.version++
	return true
}

// copied tells another model just like it.
func (m *model) copied() *model {
	c := *m
	c.list, c.slots = slices.Clone(m.list), slices.Clone(m.slots)
	if m.on != nil {
		w := *m.on
		w.list, w.slots, w.order, w.ways = slices.Clone(w.list), slices.Clone(w.slots), slices.Clone(w.order), slices.Clone(w.ways)
		c.on = &w
	}
	return &c
}

// show tells what a builder is to tell of itself.
func (m *model) show() shown {
	s := shown{marked: m.marked, busy: m.on != nil, version: m.version, list: m.list, table: make([]api.Target, len(m.slots))}
	for slot, number := range m.slots {
		if number >= 0 {
			s.table[slot] = m.list[number]
		}
	}
	return s
}

// row tells a function that tells numbers below n, one by one, which hang on a seed.
func row(seed uint64) func(n int) int {
	return func(n int) int {
		seed = seed*6364136223846793005 + 1442695040888963407
		return int(seed >> 33 % uint64(n))
	}
}

// anyList tells a list: most of them may be for m slots.
func anyList(next func(int) int, m int) []api.Target {
	list := many(next(17), func(int) int { return next(max(2, min(101, m/7))) })
	for i := range list {
		list[i].Name = strings.Repeat(list[i].Name, 1+next(3))
		list[i].Life = uint64(next(5))
	}
	return list
}

// P20.1, P20.2, P20.3: long walks of marks, runs and copies tell just what the words do, at each step.
func TestWalk(t *testing.T) {
	published, refused := 0, 0
	for _, m := range []int{7, 11, 17, 97, 211} {
		for seed := range uint64(6) {
			next := row(seed<<20 | uint64(m))
			b, want := made(t, m), &model{slots: slices.Repeat([]int{-1}, m)}
			for range 1500 {
				switch next(8) {
				case 0:
					b.Mark()
					want.marked = true
				case 1:
					if next(10) == 0 {
						older, olderWant := b, want
						b, want = b.Copy(), want.copied()
						list := anyList(next, m)
						if build.May(list, m) {
							older.Run(list, m)
							olderWant.run(list, m)
						}
						if !show(t, older, m).same(olderWant.show()) {
							t.Fatal("what was copied", show(t, older, m), olderWant.show())
						}
					}
				default:
					list, units := anyList(next, m), next(m)-next(3)
					got, err := b.Run(list, units)
					if !maglev.May(weighted(list), m) {
						refused++
						if got || err != api.ErrArg {
							t.Fatalf("Run(%v, %d): %v, %d", list, units, got, err)
						}
					} else if is := want.run(list, units); got != is || err != api.OK {
						t.Fatalf("Run(%v, %d): %v, %d, not %v", list, units, got, err, is)
					} else if is {
						published++
						if !slices.Equal(show(t, b, m).table, tableOf(b.List(), m)) {
							t.Fatalf("the table of %v is not layer 19's", b.List())
						}
					}
				}
				if !show(t, b, m).same(want.show()) {
					t.Fatalf("%v, not %v", show(t, b, m), want.show())
				}
			}
		}
	}
	if published < 1000 || refused < 1000 {
		t.Error("the walks came to too little:", published, refused)
	}
}

// runsAfter tells behind how many runs of so many units a table is published whose list is one of theirs; each one's life is the number of its run.
func runsAfter(t *testing.T, b *build.Builder, list []api.Target, units, most int) int {
	t.Helper()
	for i := 1; i <= most; i++ {
		if ran(t, b, lived(list, uint64(i)), units) && b.List()[0].Life > 0 {
			return i
		}
	}
	return math.MaxInt
}

// P20.3: T2: a build has at most M times (1 and N) units, and within twice the runs that these ask for behind a mark a table is published of a list of one of these runs, whatever build is on at the mark.
func TestBound(t *testing.T) {
	for _, c := range builds() {
		most := c.m * (1 + takePart(c.list))
		if c.units > most {
			t.Errorf("%v for %d: %d units, above %d", c.list, c.m, c.units, most)
		}
		if len(c.list) == 0 || c.m > 2000 {
			continue
		}
		for _, units := range []int{1, 2, 7, c.m, most - 1, most, most + 1} {
			within := 2 * ((most + units - 1) / units)
			for _, ahead := range []int{0, 1, 2, c.units / 2, c.units - 1} {
				b := made(t, c.m)
				if ahead > 0 {
					b.Mark()
					ran(t, b, lived(c.list, 0), ahead)
				}
				b.Mark()
				if runs := runsAfter(t, b, c.list, units, within); runs > within {
					t.Errorf("%v for %d: not within %d runs of %d units behind a mark at %d units", c.list, c.m, within, units, ahead)
				}
			}
		}
	}
}

// P20.3: so it is of lists of a walk; each single unit of each of their builds is counted.
func TestBoundWalk(t *testing.T) {
	next := row(20)
	for _, m := range []int{7, 11, 13, 31, 97, 503} {
		for range 60 {
			list := anyList(next, m)
			if !build.May(list, m) {
				continue
			}
			b := made(t, m)
			b.Mark()
			units := 0
			for published := ran(t, b, list, 0); !published; units++ {
				published = ran(t, b, list, 1)
			}
			if most := m * (1 + takePart(list)); units > most || takePart(list) > 0 && units < m+takePart(list) {
				t.Errorf("%v for %d: %d units", list, m, units)
			}
			if !show(t, b, m).same(told(list, m, 1)) {
				t.Errorf("%v for %d by single units: %v", list, m, show(t, b, m))
			}
		}
	}
}
