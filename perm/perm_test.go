package perm_test

import (
	"iter"
	"math"
	"slices"
	"strconv"
	"testing"

	"weighbridge/api"
	"weighbridge/perm"
	"weighbridge/prime"
)

// sizes are sizes of tables, the least and the greatest among them; unsized are numbers that are none.
var (
	sizes   = []int{7, 11, 13, 97, 1009, 65537}
	unsized = []int{math.MinInt, math.MinInt + 1, -65537, -7, -1, 0, 1, 2, 3, 5, 6, 8, 9, 49, 98, 1001, 65535, 65536, 65538, 65539, 1048573, math.MaxInt32, math.MaxInt >> 2, math.MaxInt}
)

// seeded is the tests' own hash of a name, by the words of layer 12, with the seeds' numbers written out by those who call it.
func seeded(seed uint64, name string) uint64 {
	n := uint64(14695981039346656037)
	for i := range len(name) {
		n = (n ^ uint64(name[i])) * 1099511628211
	}
	return mixed(n ^ mixed(seed))
}

func mixed(n uint64) uint64 {
	n = (n ^ n>>30) * 0xbf58476d1ce4e5b9
	n = (n ^ n>>27) * 0x94d049bb133111eb
	return n ^ n>>31
}

// walked tells the slots of a permutation by their words: the offset, and the skip again and again, M taken off where the sum is M or more.
func walked(p api.Perm) []int {
	list := make([]int, 0, p.M)
	slot := p.Offset
	for len(list) < p.M {
		list = append(list, slot)
		slot += p.Skip
		if slot >= p.M {
			slot -= p.M
		}
	}
	return list
}

// few tells of a permutation of m slots those that are tried: all offsets and skips of a small one, the edges and some between of a great one.
func few(m int) []api.Perm {
	var list []api.Perm
	offsets, skips := []int{0, 1, m / 2, m - 2, m - 1}, []int{1, 2, m / 3, m / 2, m - 2, m - 1}
	if m <= 13 {
		offsets, skips = nil, nil
		for n := range m {
			offsets = append(offsets, n)
			if n > 0 {
				skips = append(skips, n)
			}
		}
	}
	for _, offset := range offsets {
		for _, skip := range skips {
			list = append(list, api.Perm{Offset: offset, Skip: skip, M: m})
		}
	}
	return list
}

// wrong are permutations that may not be: an offset, a skip or M beyond its bounds, each on its own and together.
func wrong() []api.Perm {
	list := []api.Perm{{}, {Offset: -1, Skip: -1, M: -7}, {Offset: 1, Skip: 1}, {Offset: -8, Skip: 8, M: 7}}
	for _, m := range sizes {
		for _, offset := range []int{-1, -m, m, m + 1, 2 * m, math.MinInt, math.MaxInt} {
			list = append(list, api.Perm{Offset: offset, Skip: 1, M: m}, api.Perm{Offset: offset, Skip: m - 1, M: m})
		}
		for _, skip := range []int{0, -1, 1 - m, -m, m, m + 1, 2*m - 1, math.MinInt, math.MaxInt} {
			list = append(list, api.Perm{Skip: skip, M: m}, api.Perm{Offset: m - 1, Skip: skip, M: m})
		}
	}
	for _, m := range unsized {
		list = append(list, api.Perm{Skip: 1, M: m}, api.Perm{Offset: 1, Skip: 2, M: m}, api.Perm{Offset: 6, Skip: 6, M: m}, api.Perm{Offset: m - 1, Skip: m - 1, M: m})
	}
	return list
}

// P18.1: Of tells the name's permutation: values that were worked out apart from this program, those of hashes above the greatest int among them.
func TestOfKnown(t *testing.T) {
	for _, c := range []struct {
		name string
		want api.Perm
	}{
		{"a", api.Perm{Offset: 0, Skip: 5, M: 7}},
		{"b", api.Perm{Offset: 1, Skip: 1, M: 7}},
		{"web1", api.Perm{Offset: 0, Skip: 1, M: 7}},
		{"web2", api.Perm{Offset: 6, Skip: 2, M: 7}},
		{"web1", api.Perm{Offset: 3, Skip: 1, M: 11}},
		{"web1", api.Perm{Offset: 54, Skip: 7, M: 97}},
		{"web2", api.Perm{Offset: 36, Skip: 92, M: 97}},
		{"a", api.Perm{Offset: 481, Skip: 515, M: 1009}},
		{"a", api.Perm{Offset: 44155, Skip: 8323, M: 65537}},
		{"web1", api.Perm{Offset: 37860, Skip: 31591, M: 65537}},
		{"web2", api.Perm{Offset: 5970, Skip: 40188, M: 65537}},
		{"a-name.of_16char", api.Perm{Offset: 63456, Skip: 15882, M: 65537}},
		{"", api.Perm{Offset: 20949, Skip: 2571, M: 65537}},
		{"\x00", api.Perm{Offset: 5, Skip: 5, M: 7}},
		{"\xff\xfe", api.Perm{Offset: 4, Skip: 10, M: 97}},
		{"a name that is longer than any backend may have", api.Perm{Offset: 58706, Skip: 24384, M: 65537}},
		{"n5", api.Perm{Offset: 0, Skip: 1, M: 7}},
		{"n10", api.Perm{Offset: 6, Skip: 6, M: 7}},
		{"n19", api.Perm{Offset: 86, Skip: 96, M: 97}},
		{"n60", api.Perm{Offset: 96, Skip: 9, M: 97}},
		{"n79", api.Perm{Offset: 8, Skip: 1, M: 97}},
		{"n104", api.Perm{Offset: 0, Skip: 66, M: 97}},
	} {
		if got, err := perm.Of(c.name, c.want.M); err != api.OK || got != c.want {
			t.Errorf("Of(%q, %d): %v, %d, not %v", c.name, c.want.M, got, err, c.want)
		}
	}
}

// P18.1: Of is held against the words for many names, of each size that is tried; what it tells may be, and each offset and each skip of a small size is told of some name.
func TestOfByTheWords(t *testing.T) {
	for _, m := range sizes {
		offsets, skips := map[int]int{}, map[int]int{}
		for i := range 500 {
			name := "n" + strconv.Itoa(i)
			want := api.Perm{Offset: int(seeded(1, name) % uint64(m)), Skip: 1 + int(seeded(2, name)%uint64(m-1)), M: m}
			got, err := perm.Of(name, m)
			if err != api.OK || got != want || !perm.May(got) {
				t.Fatalf("Of(%q, %d): %v, %d, not %v", name, m, got, err, want)
			}
			offsets[got.Offset]++
			skips[got.Skip]++
		}
		if m <= 13 && (len(offsets) != m || len(skips) != m-1) {
			t.Errorf("%d: %d offsets and %d skips", m, len(offsets), len(skips))
		}
	}
}

// P18.1: Of of no size is ErrArg, and tells no permutation; so with each number to far above the greatest size that is no size.
func TestOfNoSize(t *testing.T) {
	for _, m := range unsized {
		for _, name := range []string{"", "web1", "a-name.of_16char"} {
			if got, err := perm.Of(name, m); err != api.ErrArg || got != (api.Perm{}) {
				t.Errorf("Of(%q, %d): %v, %d", name, m, got, err)
			}
		}
	}
	for m := -10; m < 70000; m++ {
		want := api.ErrArg
		if prime.Size(m) {
			want = api.OK
		}
		if got, err := perm.Of("web1", m); err != want || (err == api.OK) != (got.M == m && got != api.Perm{}) {
			t.Fatalf("Of of %d: %v, %d", m, got, err)
		}
	}
}

// P18.1: May holds just if M is a size, the offset is 0 to M - 1 and the skip 1 to M - 1: all around the bounds of the small ones, and what is wrong alone.
func TestMay(t *testing.T) {
	for m := -3; m <= 30; m++ {
		size := m == 7 || m == 11 || m == 13 || m == 17 || m == 19 || m == 23 || m == 29
		for offset := -3; offset <= m+3; offset++ {
			for skip := -3; skip <= m+3; skip++ {
				p := api.Perm{Offset: offset, Skip: skip, M: m}
				want := size && offset >= 0 && offset <= m-1 && skip >= 1 && skip <= m-1
				if perm.May(p) != want {
					t.Fatalf("May(%v): not %v", p, want)
				}
			}
		}
	}
	for _, m := range sizes {
		for _, p := range few(m) {
			if !perm.May(p) {
				t.Errorf("%v may be", p)
			}
		}
	}
	for _, p := range wrong() {
		if perm.May(p) {
			t.Errorf("%v may not be", p)
		}
	}
}

// P18.1, P18.2: the example of the chapter.
func TestExample(t *testing.T) {
	p := api.Perm{Offset: 3, Skip: 4, M: 7}
	want := []int{3, 0, 4, 1, 5, 2, 6}
	if got := slices.Collect(perm.Slots(p)); !slices.Equal(got, want) {
		t.Errorf("%v, not %v", got, want)
	}
	for i, slot := range want {
		if perm.At(p, i) != slot || perm.Where(p, slot) != i {
			t.Errorf("%d: %d, and %d: %d", i, perm.At(p, i), slot, perm.Where(p, slot))
		}
	}
}

// P18.1: At tells each slot by the words, and again M, and any number of times M, further on.
func TestAt(t *testing.T) {
	for _, m := range sizes {
		for _, p := range few(m) {
			list := walked(p)
			far := math.MaxInt - math.MaxInt%m
			for i := 0; i < m; i += 1 + m/40 {
				for _, at := range []int{i, i + m, i + 2*m, i + 1000003*m, far - m + i} {
					if got := perm.At(p, at); got != list[i] {
						t.Fatalf("At(%v, %d): %d, not %d", p, at, got, list[i])
					}
				}
			}
			if got := perm.At(p, math.MaxInt); got != list[math.MaxInt%m] {
				t.Fatalf("At(%v, the greatest): %d, not %d", p, got, list[math.MaxInt%m])
			}
		}
	}
}

// P18.1: At is -1 below 0, and of what may not be.
func TestAtInVain(t *testing.T) {
	for _, m := range sizes {
		for _, p := range few(m) {
			for _, i := range []int{-1, -2, 1 - m, -m, -2 * m, math.MinInt32, math.MinInt + 1, math.MinInt} {
				if got := perm.At(p, i); got != -1 {
					t.Fatalf("At(%v, %d): %d", p, i, got)
				}
			}
		}
	}
	for _, p := range wrong() {
		for _, i := range []int{math.MinInt, -1, 0, 1, 6, 7, 65536, math.MaxInt} {
			if got := perm.At(p, i); got != -1 {
				t.Errorf("At(%v, %d): %d", p, i, got)
			}
		}
	}
}

// P18.2: Slots tells all M slots, each one once, in their order; they are those of At; and all that are told, are told anew.
func TestSlots(t *testing.T) {
	for _, m := range sizes {
		for _, p := range few(m) {
			all := perm.Slots(p)
			want := walked(p)
			for range 2 {
				if got := slices.Collect(all); !slices.Equal(got, want) {
					t.Fatalf("%v: not in their order", p)
				}
			}
			for i := 0; i < m; i += 1 + m/40 {
				if perm.At(p, i) != want[i] {
					t.Fatalf("At(%v, %d): not %d", p, i, want[i])
				}
			}
			slices.Sort(want)
			for i, slot := range want {
				if i != slot {
					t.Fatalf("%v: slot %d is not told once", p, i)
				}
			}
		}
	}
}

// P18.2: ranging may be left at each slot, nothing is told then any more, and another ranging begins anew, within the first one too.
func TestSlotsLeft(t *testing.T) {
	p := api.Perm{Offset: 9, Skip: 8, M: 11}
	want := walked(p)
	all := perm.Slots(p)
	for stop := range want {
		n := 0
		all(func(slot int) bool {
			if slot != want[n] {
				t.Errorf("%d: %d, not %d", n, slot, want[n])
			}
			n++
			return n <= stop
		})
		if n != stop+1 {
			t.Errorf("%d told, not %d", n, stop+1)
		}
	}
	outer := 0
	for slot := range all {
		if slot != want[outer] {
			t.Errorf("%d: %d, not %d", outer, slot, want[outer])
		}
		outer++
		if got := slices.Collect(all); !slices.Equal(got, want) {
			t.Errorf("within: %v", got)
		}
	}
	if outer != len(want) {
		t.Errorf("%d told", outer)
	}
}

// P18.2: of what may not be, there is a function still, and it tells none; nor does a function that is not there harm.
func TestSlotsNone(t *testing.T) {
	for _, p := range wrong() {
		all := perm.Slots(p)
		if all == nil {
			t.Fatalf("%v: no function", p)
		}
		for slot := range all {
			t.Fatalf("%v: %d is told", p, slot)
		}
		all(nil)
	}
	var all iter.Seq[int] = perm.Slots(api.Perm{Offset: 3, Skip: 4, M: 7})
	all(nil)
}

// P18.2: Where tells at which i each slot stands.
func TestWhere(t *testing.T) {
	for _, m := range sizes {
		for _, p := range few(m) {
			step := 1 + m/10
			for i, slot := range walked(p) {
				if i%step != 0 && i != m-1 {
					continue
				}
				if got := perm.Where(p, slot); got != i || perm.At(p, got) != slot {
					t.Fatalf("Where(%v, %d): %d, not %d", p, slot, got, i)
				}
			}
		}
	}
}

// P18.2: Where is -1 of a slot that there is not, and of what may not be.
func TestWhereInVain(t *testing.T) {
	for _, m := range sizes {
		for _, p := range []api.Perm{{Skip: 1, M: m}, {Offset: m - 1, Skip: m - 1, M: m}, {Offset: m / 2, Skip: m / 2, M: m}} {
			for _, slot := range []int{math.MinInt, -m - 1, -m, -2, -1, m, m + 1, 2 * m, math.MaxInt32, math.MaxInt} {
				if got := perm.Where(p, slot); got != -1 {
					t.Errorf("Where(%v, %d): %d", p, slot, got)
				}
			}
		}
	}
	for _, p := range wrong() {
		for _, slot := range []int{math.MinInt, -1, 0, 1, 2, 6, 7, p.Offset, math.MaxInt} {
			if got := perm.Where(p, slot); got != -1 {
				t.Errorf("Where(%v, %d): %d", p, slot, got)
			}
		}
	}
}
