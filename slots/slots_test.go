package slots

import (
	"iter"
	"math"
	"slices"
	"testing"

	"weighbridge/api"
)

// wrong is numbers of lists and cells that there are none of, whatever was made.
var wrong = []int{math.MinInt, math.MinInt32, -api.MaxCells, -2, -1, api.MaxCells, api.MaxCells + api.MaxLists, math.MaxInt32, 1 << 32, math.MaxInt}

// item is a cell in a list, and which pushing of all it came by.
type item struct {
	cell, turn int
}

// book is slots as the chapter's words have it: each list's cells by their order.
type book struct {
	lists  [][]item
	cells  int
	pushed int
}

// blank tells the book of slots without anything in their lists.
func blank(lists, cells int) *book {
	return &book{lists: make([][]item, lists), cells: cells}
}

// where tells a cell's list and its place there.
func (b *book) where(cell int) (int, int, bool) {
	for list, items := range b.lists {
		if i := slices.IndexFunc(items, func(x item) bool { return x.cell == cell }); i >= 0 {
			return list, i, true
		}
	}
	return 0, 0, false
}

// push tells what a pushing is answered.
func (b *book) push(list, cell int) api.Errno {
	if list < 0 || list >= len(b.lists) || cell < 0 || cell >= b.cells {
		return api.ErrArg
	}
	if _, _, in := b.where(cell); in {
		return api.ErrTwice
	}
	b.pushed++
	b.lists[list] = append(b.lists[list], item{cell, b.pushed})
	return api.OK
}

// pop tells what a popping is answered.
func (b *book) pop(list int) (int, bool) {
	if list < 0 || list >= len(b.lists) || len(b.lists[list]) == 0 {
		return 0, false
	}
	first := b.lists[list][0].cell
	b.lists[list] = slices.Delete(b.lists[list], 0, 1)
	return first, true
}

// remove tells what a removing is answered.
func (b *book) remove(cell int) api.Errno {
	if cell < 0 || cell >= b.cells {
		return api.ErrArg
	}
	list, i, in := b.where(cell)
	if !in {
		return api.ErrNone
	}
	b.lists[list] = slices.Delete(b.lists[list], i, i+1)
	return api.OK
}

// behind tells the first one of a list that was pushed behind a turn.
func (b *book) behind(list, turn int) (item, bool) {
	for _, x := range b.lists[list] {
		if x.turn > turn {
			return x, true
		}
	}
	return item{}, false
}

// copy tells another book just like it.
func (b *book) copy() *book {
	other := blank(len(b.lists), b.cells)
	other.pushed = b.pushed
	for list, items := range b.lists {
		other.lists[list] = slices.Clone(items)
	}
	return other
}

// made tells slots with so many lists and cells, nothing in them.
func made(t *testing.T, lists, cells int) *Slots {
	t.Helper()
	s, e := New(lists, cells)
	if e != api.OK || s == nil {
		t.Fatalf("New(%d, %d) = %v, %d", lists, cells, s, e)
	}
	return s
}

// pushes pushes cells to a list, each of which may be.
func pushes(t *testing.T, s *Slots, list int, cells ...int) {
	t.Helper()
	for _, cell := range cells {
		if e := s.Push(list, cell); e != api.OK {
			t.Fatalf("Push(%d, %d) = %d", list, cell, e)
		}
	}
}

// removes removes cells, each of which is in a list.
func removes(t *testing.T, s *Slots, cells ...int) {
	t.Helper()
	for _, cell := range cells {
		if e := s.Remove(cell); e != api.OK {
			t.Fatalf("Remove(%d) = %d", cell, e)
		}
	}
}

// pops asks a popping to tell that cell.
func pops(t *testing.T, s *Slots, list, want int) {
	t.Helper()
	if cell, ok := s.Pop(list); cell != want || !ok {
		t.Fatalf("Pop(%d) = %d, %v, want %d", list, cell, ok, want)
	}
}

// tells asks a function to be ranged over to tell just those cells.
func tells(t *testing.T, of iter.Seq[int], want ...int) {
	t.Helper()
	if got := slices.Collect(of); !slices.Equal(got, want) {
		t.Fatalf("Of = %v, want %v", got, want)
	}
}

// holds asks slots to have just those cells in their lists, and no more cells than that.
func holds(t *testing.T, s *Slots, cells int, lists ...[]int) {
	t.Helper()
	in := map[int]int{}
	for list, want := range lists {
		tells(t, s.Of(list), want...)
		if n := s.Len(list); n != len(want) {
			t.Fatalf("Len(%d) = %d, want %d", list, n, len(want))
		}
		for _, cell := range want {
			in[cell] = list
		}
	}
	for cell := -2; cell < cells+2; cell++ {
		want, is := in[cell]
		if list, ok := s.Where(cell); list != want || ok != is {
			t.Fatalf("Where(%d) = %d, %v, want %d, %v", cell, list, ok, want, is)
		}
	}
}

// agrees asks slots to have just what a book has.
func agrees(t *testing.T, s *Slots, b *book) {
	t.Helper()
	lists := make([][]int, len(b.lists))
	for list, items := range b.lists {
		for _, x := range items {
			lists[list] = append(lists[list], x.cell)
		}
	}
	holds(t, s, b.cells, lists...)
}

// mixed tells the next of numbers that differ, the same ones each time.
func mixed(seed *uint32) int {
	*seed = *seed*1664525 + 1013904223
	return int(*seed >> 8)
}

// P10.1: each number of lists and of cells about the bounds.
func TestNew(t *testing.T) {
	lists := []int{math.MinInt, -api.MaxLists, -1, 0, api.MaxLists + 1, api.MaxCells, math.MaxInt, 1, 2, 255, api.MaxLists - 1, api.MaxLists}
	cells := []int{math.MinInt, -api.MaxCells, -1, 0, api.MaxCells + 1, 2 * api.MaxCells, math.MaxInt, 1, 2, 255, api.MaxLists + 1, api.MaxCells - 1, api.MaxCells}
	for i, l := range lists {
		for k, c := range cells {
			if i >= 7 && k >= 7 {
				s := made(t, l, c)
				if e := s.Push(l-1, c-1); e != api.OK || s.Push(l, 0) != api.ErrArg || s.Push(0, c) != api.ErrArg {
					t.Errorf("Push of %d, %d = %d, or more than there are", l, c, e)
				}
				continue
			}
			if s, e := New(l, c); s != nil || e != api.ErrArg {
				t.Errorf("New(%d, %d) = %v, %d", l, c, s, e)
			}
		}
	}
}

// P10.1 and P10.2: each list is empty at first, each cell in none.
func TestFirst(t *testing.T) {
	for _, n := range [][2]int{{1, 1}, {1, 7}, {7, 1}, {3, 5}} {
		s := made(t, n[0], n[1])
		holds(t, s, n[1], make([][]int, n[0])...)
		for list := range n[0] {
			if cell, ok := s.Pop(list); cell != 0 || ok {
				t.Errorf("Pop(%d) = %d, %v", list, cell, ok)
			}
		}
		for cell := range n[1] {
			if e := s.Remove(cell); e != api.ErrNone {
				t.Errorf("Remove(%d) = %d", cell, e)
			}
		}
	}
}

// P10.1: the chapter's examples.
func TestExamples(t *testing.T) {
	s := made(t, 1, 4)
	pushes(t, s, 0, 3, 1, 2)
	holds(t, s, 4, []int{3, 1, 2})
	removes(t, s, 1)
	pops(t, s, 0, 3)
	holds(t, s, 4, []int{2})
}

// P10.1: a cell is its list's last one, whichever it is; the other lists have none of it.
func TestPush(t *testing.T) {
	s := made(t, 3, 6)
	pushes(t, s, 1, 5)
	holds(t, s, 6, nil, []int{5}, nil)
	pushes(t, s, 2, 0)
	pushes(t, s, 1, 3, 4)
	pushes(t, s, 0, 2)
	holds(t, s, 6, []int{2}, []int{5, 3, 4}, []int{0})
	pushes(t, s, 2, 1)
	holds(t, s, 6, []int{2}, []int{5, 3, 4}, []int{0, 1})
}

// P10.1: lists and cells that there are not, ahead of a cell that is in a list; nothing changes.
func TestPushRefused(t *testing.T) {
	s := made(t, 2, 3)
	pushes(t, s, 0, 2, 0)
	pushes(t, s, 1, 1)
	for _, n := range append([]int{2, 3, 4, 5}, wrong...) {
		for cell := range 3 {
			if e := s.Push(n, cell); e != api.ErrArg {
				t.Errorf("Push(%d, %d) = %d", n, cell, e)
			}
		}
		if n == 2 {
			continue
		}
		for list := -1; list < 3; list++ {
			if e := s.Push(list, n); e != api.ErrArg {
				t.Errorf("Push(%d, %d) = %d", list, n, e)
			}
		}
	}
	for list := range 2 {
		for cell := range 3 {
			if e := s.Push(list, cell); e != api.ErrTwice {
				t.Errorf("Push(%d, %d) = %d", list, cell, e)
			}
		}
	}
	holds(t, s, 3, []int{2, 0}, []int{1})
}

// P10.1: the first one each time, till there is none; it is in none then, and may be pushed anew.
func TestPop(t *testing.T) {
	s := made(t, 2, 5)
	pushes(t, s, 0, 4, 1, 0)
	pushes(t, s, 1, 2)
	pops(t, s, 0, 4)
	holds(t, s, 5, []int{1, 0}, []int{2})
	if e := s.Remove(4); e != api.ErrNone {
		t.Errorf("Remove of a popped one = %d", e)
	}
	pushes(t, s, 0, 4)
	pops(t, s, 0, 1)
	pushes(t, s, 1, 1)
	pops(t, s, 0, 0)
	pops(t, s, 0, 4)
	for range 2 {
		if cell, ok := s.Pop(0); cell != 0 || ok {
			t.Errorf("Pop of an empty list = %d, %v", cell, ok)
		}
	}
	pops(t, s, 1, 2)
	pops(t, s, 1, 1)
	holds(t, s, 5, nil, nil)
}

// P10.1 and P10.2: a list that there is not has nothing.
func TestNoList(t *testing.T) {
	s := made(t, 2, 3)
	pushes(t, s, 0, 0, 2)
	pushes(t, s, 1, 1)
	for _, list := range append([]int{2, 3, 4, 5}, wrong...) {
		if cell, ok := s.Pop(list); cell != 0 || ok {
			t.Errorf("Pop(%d) = %d, %v", list, cell, ok)
		}
		if n := s.Len(list); n != 0 {
			t.Errorf("Len(%d) = %d", list, n)
		}
		of := s.Of(list)
		if of == nil {
			t.Fatalf("Of(%d) is not there", list)
		}
		tells(t, of)
	}
	holds(t, s, 3, []int{0, 2}, []int{1})
}

// P10.1: each one of a list, of each length, the others keep their order; it is in none then.
func TestRemove(t *testing.T) {
	for n := 1; n <= 5; n++ {
		for gone := range n {
			s := made(t, 2, 6)
			var left []int
			for cell := range n {
				pushes(t, s, 0, cell)
				if cell != gone {
					left = append(left, cell)
				}
			}
			pushes(t, s, 1, 5)
			removes(t, s, gone)
			holds(t, s, 6, left, []int{5})
			if e := s.Remove(gone); e != api.ErrNone {
				t.Errorf("Remove(%d) anew = %d", gone, e)
			}
			pushes(t, s, 1, gone)
			holds(t, s, 6, left, []int{5, gone})
			removes(t, s, 5, gone)
			pushes(t, s, 0, gone)
			holds(t, s, 6, append(left, gone), nil)
		}
	}
}

// P10.1 and P10.2: cells that there are not, a list's own among them, and ones in no list; nothing changes.
func TestWrongCells(t *testing.T) {
	s := made(t, 3, 4)
	pushes(t, s, 0, 3, 1)
	pushes(t, s, 2, 0)
	for _, cell := range append([]int{4, 5, 6, 7, 8}, wrong...) {
		if e := s.Remove(cell); e != api.ErrArg {
			t.Errorf("Remove(%d) = %d", cell, e)
		}
		if list, ok := s.Where(cell); list != 0 || ok {
			t.Errorf("Where(%d) = %d, %v", cell, list, ok)
		}
	}
	if e := s.Remove(2); e != api.ErrNone {
		t.Errorf("Remove(2) = %d", e)
	}
	holds(t, s, 4, []int{3, 1}, nil, []int{0})
}

// P10.1 and P10.2: as many lists and cells as there may be, all of them in one list, then some in each.
func TestMany(t *testing.T) {
	s := made(t, api.MaxLists, api.MaxCells)
	const last = api.MaxLists - 1
	var want []int
	for i := range api.MaxCells {
		cell := i * 40503 % api.MaxCells
		want = append(want, cell)
		pushes(t, s, last, cell)
	}
	tells(t, s.Of(last), want...)
	if e := s.Push(0, 0); e != api.ErrTwice || s.Len(last) != api.MaxCells {
		t.Errorf("Push = %d, Len %d", e, s.Len(last))
	}
	for i, cell := range want {
		switch i % 3 {
		case 0:
			removes(t, s, cell)
			pushes(t, s, i%last, cell)
		case 1:
			removes(t, s, cell)
		}
	}
	for i, cell := range want {
		list, ok := s.Where(cell)
		if is := i%3 != 1; ok != is || i%3 == 0 && list != i%last || i%3 == 2 && list != last {
			t.Fatalf("Where(%d) = %d, %v", cell, list, ok)
		}
	}
	for i := 2; i < len(want); i += 3 {
		pops(t, s, last, want[i])
	}
	lists := make([][]int, api.MaxLists)
	for i := 0; i < len(want); i += 3 {
		lists[i%last] = append(lists[i%last], want[i])
	}
	holds(t, s, api.MaxCells, lists...)
}

// P10.2: as far as they are asked for, and from the first one on each time.
func TestOfLeft(t *testing.T) {
	s := made(t, 2, 8)
	all := []int{6, 0, 3, 7, 1}
	pushes(t, s, 1, all...)
	cells := s.Of(1)
	for n := 1; n <= len(all); n++ {
		var got []int
		for cell := range cells {
			if got = append(got, cell); len(got) == n {
				break
			}
		}
		if !slices.Equal(got, all[:n]) {
			t.Errorf("%d of Of = %v", n, got)
		}
		asked := 0
		cells(func(int) bool { asked++; return asked < n })
		if asked != n {
			t.Errorf("%d were told, %d were asked for", asked, n)
		}
	}
	holds(t, s, 8, nil, all)
}

// P10.2: one list gone over within another one, and within itself.
func TestOfWithin(t *testing.T) {
	s := made(t, 2, 5)
	pushes(t, s, 0, 2, 4, 0)
	pushes(t, s, 1, 3, 1)
	var got []int
	for x := range s.Of(0) {
		got = append(got, x)
		for y := range s.Of(1) {
			got = append(got, y)
		}
		for y := range s.Of(0) {
			if y == x {
				break
			}
			got = append(got, y)
		}
	}
	if want := []int{2, 3, 1, 4, 3, 1, 2, 0, 3, 1, 2, 4}; !slices.Equal(got, want) {
		t.Errorf("Of within Of = %v, want %v", got, want)
	}
}

// P10.2: a function that was told ahead of a change tells what is linked behind it.
func TestOfThen(t *testing.T) {
	s := made(t, 2, 4)
	cells := s.Of(0)
	tells(t, cells)
	pushes(t, s, 0, 3, 1)
	tells(t, cells, 3, 1)
	pops(t, s, 0, 3)
	pushes(t, s, 1, 3)
	tells(t, cells, 1)
	pushes(t, s, 0, 0)
	tells(t, cells, 1, 0)
	removes(t, s, 1, 0)
	tells(t, cells)
}

// meanwhile tells which cells of list 0 are told, as something is done at each.
func meanwhile(t *testing.T, s *Slots, do func(cell int)) []int {
	t.Helper()
	var got []int
	for cell := range s.Of(0) {
		if got = append(got, cell); len(got) > 100 {
			t.Fatalf("Of does not end: %v", got)
		}
		do(cell)
	}
	return got
}

// P10.2: of a list that changes meanwhile, till it ends, by what is linked then.
func TestOfMeanwhile(t *testing.T) {
	type call func(s *Slots, cell int)
	remove := func(s *Slots, cell int) { s.Remove(cell) }
	move := func(s *Slots, cell int) { s.Remove(cell); s.Push(1, cell) }
	pop := func(s *Slots, _ int) { s.Pop(0) }
	at := func(where int, do ...func(s *Slots)) call {
		return func(s *Slots, cell int) {
			for _, one := range do {
				if cell == where {
					one(s)
				}
			}
		}
	}
	gone := func(cells ...int) func(*Slots) {
		return func(s *Slots) {
			for _, cell := range cells {
				s.Remove(cell)
			}
		}
	}
	onto := func(list int, cells ...int) func(*Slots) {
		return func(s *Slots) {
			for _, cell := range cells {
				s.Push(list, cell)
			}
		}
	}
	for _, x := range []struct {
		name       string
		do         call
		told, left []int
		other      []int
	}{
		{"each told one removed", remove, []int{3, 1, 2, 0}, nil, []int{7}},
		{"each told one moved", move, []int{3, 1, 2, 0}, nil, []int{7, 3, 1, 2, 0}},
		{"each time the first one popped", pop, []int{3, 1, 2, 0}, nil, []int{7}},
		{"a told one removed, first", at(3, gone(3)), []int{3, 1, 2, 0}, []int{1, 2, 0}, []int{7}},
		{"a told one removed, within", at(1, gone(1)), []int{3, 1, 2, 0}, []int{3, 2, 0}, []int{7}},
		{"a told one removed, last", at(0, gone(0)), []int{3, 1, 2, 0}, []int{3, 1, 2}, []int{7}},
		{"one removed that was told ahead", at(2, gone(3)), []int{3, 1, 2, 0}, []int{1, 2, 0}, []int{7}},
		{"the next one removed", at(1, gone(2)), []int{3, 1, 0}, []int{3, 1, 0}, []int{7}},
		{"the next one moved", at(1, gone(2), onto(1, 2)), []int{3, 1, 0}, []int{3, 1, 0}, []int{7, 2}},
		{"the last one removed", at(1, gone(0)), []int{3, 1, 2}, []int{3, 1, 2}, []int{7}},
		{"the told one and the next one removed", at(1, gone(1, 2)), []int{3, 1, 0}, []int{3, 0}, []int{7}},
		{"the next one and the told one removed", at(1, gone(2, 1)), []int{3, 1, 0}, []int{3, 0}, []int{7}},
		{"the told one and the one ahead removed", at(1, gone(1, 3)), []int{3, 1, 2, 0}, []int{2, 0}, []int{7}},
		{"all removed", at(1, gone(2, 3, 1, 0)), []int{3, 1}, nil, []int{7}},
		{"all moved", at(1, gone(3, 1, 2, 0), onto(1, 0, 2, 1, 3)), []int{3, 1}, nil, []int{7, 0, 2, 1, 3}},
		{"pushed at the first one", at(3, onto(0, 5, 6)), []int{3, 1, 2, 0, 5, 6}, []int{3, 1, 2, 0, 5, 6}, []int{7}},
		{"pushed at the last one", at(0, onto(0, 5, 6)), []int{3, 1, 2, 0, 5, 6}, []int{3, 1, 2, 0, 5, 6}, []int{7}},
		{"removed and pushed at the last one", at(0, gone(0), onto(0, 5)), []int{3, 1, 2, 0, 5}, []int{3, 1, 2, 5}, []int{7}},
		{"all removed, another one pushed", at(1, gone(3, 1, 2, 0), onto(0, 5)), []int{3, 1, 5}, []int{5}, []int{7}},
		{"one told ahead pushed anew", at(1, gone(3), onto(0, 3)), []int{3, 1, 2, 0, 3}, []int{1, 2, 0, 3}, []int{7}},
		{"the next one pushed anew", at(3, gone(1), onto(0, 1)), []int{3, 2, 0, 1}, []int{3, 2, 0, 1}, []int{7}},
		{"another list changed", at(1, gone(7), onto(1, 6)), []int{3, 1, 2, 0}, []int{3, 1, 2, 0}, []int{6}},
	} {
		s := made(t, 2, 8)
		pushes(t, s, 0, 3, 1, 2, 0)
		pushes(t, s, 1, 7)
		if got := meanwhile(t, s, func(cell int) { x.do(s, cell) }); !slices.Equal(got, x.told) {
			t.Errorf("%s: Of = %v, want %v", x.name, got, x.told)
		}
		holds(t, s, 8, x.left, x.other)
	}
}

// P10.2: a told one that is removed and pushed anew once: behind what stood behind it.
func TestOfPushedAnew(t *testing.T) {
	s, once := made(t, 1, 4), true
	pushes(t, s, 0, 3, 1, 2)
	got := meanwhile(t, s, func(cell int) {
		if once {
			once = false
			removes(t, s, cell)
			pushes(t, s, 0, cell)
		}
	})
	if want := []int{3, 1, 2, 3}; !slices.Equal(got, want) {
		t.Errorf("Of = %v, want %v", got, want)
	}
	holds(t, s, 4, []int{1, 2, 3})
}

// P10.2: two that go over one list, what the inner one removes included.
func TestOfWithinMeanwhile(t *testing.T) {
	s := made(t, 1, 6)
	pushes(t, s, 0, 0, 1, 2, 3, 4, 5)
	var outer, inner []int
	for x := range s.Of(0) {
		outer = append(outer, x)
		for y := range s.Of(0) {
			inner = append(inner, y)
			if y == 3 || y == x {
				removes(t, s, y)
			}
			if y == 4 {
				break
			}
		}
	}
	if want := []int{0, 1, 2, 4, 5}; !slices.Equal(outer, want) {
		t.Errorf("outer = %v, want %v", outer, want)
	}
	if want := []int{0, 1, 2, 3, 4, 1, 2, 4, 2, 4, 4, 5}; !slices.Equal(inner, want) {
		t.Errorf("inner = %v, want %v", inner, want)
	}
	holds(t, s, 6, nil)
}

// P10.2: what is left, by a break, by a stop or by a panic, leaves nothing behind.
func TestOfLeftMeanwhile(t *testing.T) {
	s := made(t, 1, 4)
	pushes(t, s, 0, 0, 1, 2, 3)
	for cell := range s.Of(0) {
		removes(t, s, cell)
		break
	}
	next, stop := iter.Pull(s.Of(0))
	if cell, ok := next(); cell != 1 || !ok {
		t.Errorf("next = %d, %v", cell, ok)
	}
	removes(t, s, 1)
	if cell, ok := next(); cell != 2 || !ok {
		t.Errorf("next = %d, %v", cell, ok)
	}
	stop()
	func() {
		defer func() { recover() }()
		for range s.Of(0) {
			panic("left")
		}
	}()
	if len(s.walks) != 0 {
		t.Errorf("%d walks are left", len(s.walks))
	}
	removes(t, s, 2)
	holds(t, s, 4, []int{3})
}

// P10.2 and P1: slots that are others while a list is gone over: it ends.
func TestOfOthers(t *testing.T) {
	s := made(t, 3, 9)
	pushes(t, s, 2, 8, 7)
	n := 0
	for range s.Of(2) {
		*s = Slots{}
		if n++; n > 9 {
			t.Fatal("Of does not end")
		}
	}
	tells(t, s.Of(2))
}

// P10.2: neither of two slots hangs on what is done with the other ones.
func TestCopy(t *testing.T) {
	a := made(t, 2, 5)
	pushes(t, a, 0, 3, 0, 4)
	pushes(t, a, 1, 1)
	cells := a.Of(0)
	b := a.Copy()
	if b == a {
		t.Fatal("Copy is the slots themselves")
	}
	holds(t, b, 5, []int{3, 0, 4}, []int{1})
	removes(t, a, 0)
	pushes(t, a, 1, 2)
	holds(t, a, 5, []int{3, 4}, []int{1, 2})
	holds(t, b, 5, []int{3, 0, 4}, []int{1})
	pops(t, b, 1, 1)
	pushes(t, b, 0, 1, 2)
	pops(t, b, 0, 3)
	holds(t, a, 5, []int{3, 4}, []int{1, 2})
	holds(t, b, 5, []int{0, 4, 1, 2}, nil)
	tells(t, cells, 3, 4)
	c := b.Copy()
	removes(t, b, 0, 4, 1, 2)
	holds(t, c, 5, []int{0, 4, 1, 2}, nil)
	holds(t, made(t, 2, 1).Copy(), 1, nil, nil)
}

// P10.2: a copy made while a list is gone over, and changed: neither hangs on the other.
func TestCopyMeanwhile(t *testing.T) {
	a := made(t, 1, 4)
	pushes(t, a, 0, 2, 0, 3)
	var b *Slots
	got := meanwhile(t, a, func(cell int) {
		if cell == 0 {
			b = a.Copy()
			removes(t, b, 0, 2)
			pushes(t, b, 0, 1)
			removes(t, a, 2)
		}
	})
	if want := []int{2, 0, 3}; !slices.Equal(got, want) {
		t.Errorf("Of = %v, want %v", got, want)
	}
	holds(t, a, 4, []int{0, 3})
	holds(t, b, 4, []int{3, 1})
}

// P10.1, P10.2 and P1: slots that are not there, and ones that were not made.
func TestNothing(t *testing.T) {
	var nothing *Slots
	for _, s := range []*Slots{nothing, {}} {
		for _, n := range append([]int{0, 1}, wrong...) {
			if e := s.Push(n, 0); e != api.ErrNil {
				t.Errorf("Push(%d, 0) = %d", n, e)
			}
			if e := s.Push(0, n); e != api.ErrNil {
				t.Errorf("Push(0, %d) = %d", n, e)
			}
			if e := s.Remove(n); e != api.ErrNil {
				t.Errorf("Remove(%d) = %d", n, e)
			}
			if cell, ok := s.Pop(n); cell != 0 || ok {
				t.Errorf("Pop(%d) = %d, %v", n, cell, ok)
			}
			if list, ok := s.Where(n); list != 0 || ok {
				t.Errorf("Where(%d) = %d, %v", n, list, ok)
			}
			cells := s.Of(n)
			if cells == nil {
				t.Fatalf("Of(%d) is not there", n)
			}
			for range 2 {
				tells(t, cells)
			}
			if s.Len(n) != 0 {
				t.Errorf("Len(%d) = %d", n, s.Len(n))
			}
		}
		if s.Copy() != nil {
			t.Errorf("Copy = %v", s.Copy())
		}
	}
}

// pair is slots and their book, to be changed alike.
type pair struct {
	s *Slots
	b *book
}

// step does one call with both, some of them with lists or cells that there are not.
func (p pair) step(t *testing.T, seed *uint32) {
	t.Helper()
	list, cell := mixed(seed)%(len(p.b.lists)+2)-1, mixed(seed)%(p.b.cells+2)-1
	switch k := mixed(seed) % 10; {
	case k < 5:
		if e, want := p.s.Push(list, cell), p.b.push(list, cell); e != want {
			t.Fatalf("Push(%d, %d) = %d, want %d", list, cell, e, want)
		}
	case k < 7:
		got, ok := p.s.Pop(list)
		if want, is := p.b.pop(list); got != want || ok != is {
			t.Fatalf("Pop(%d) = %d, %v, want %d, %v", list, got, ok, want, is)
		}
	default:
		if e, want := p.s.Remove(cell), p.b.remove(cell); e != want {
			t.Fatalf("Remove(%d) = %d, want %d", cell, e, want)
		}
	}
}

// goOver goes over a list of both, as they change at each cell, to some cells at most.
func (p pair) goOver(t *testing.T, seed *uint32, list, most int) {
	t.Helper()
	turn, n := 0, 0
	for cell := range p.s.Of(list) {
		want, ok := p.b.behind(list, turn)
		if !ok || cell != want.cell {
			t.Fatalf("Of(%d) tells %d, want %d, %v", list, cell, want.cell, ok)
		}
		turn = want.turn
		if n++; n == most {
			return
		}
		for range mixed(seed) % 4 {
			p.step(t, seed)
		}
		if most > 3 && mixed(seed)%5 == 0 {
			p.goOver(t, seed, mixed(seed)%len(p.b.lists), 3)
		}
	}
	if want, ok := p.b.behind(list, turn); ok {
		t.Fatalf("Of(%d) ends ahead of %d", list, want.cell)
	}
}

// P10.1 and P10.2: long walks of calls against the book, lists gone over as they change, copies going on beside them.
func TestWalks(t *testing.T) {
	for seed := range uint32(60) {
		lists, cells := 1+int(seed)%4, 1+int(seed)%11
		p := pair{made(t, lists, cells), blank(lists, cells)}
		for range 400 {
			switch mixed(&seed) % 12 {
			case 0:
				other := pair{p.s.Copy(), p.b.copy()}
				for range 5 {
					p.step(t, &seed)
				}
				agrees(t, p.s, p.b)
				agrees(t, other.s, other.b)
				p = other
			case 1, 2:
				p.goOver(t, &seed, mixed(&seed)%lists, 40)
			default:
				p.step(t, &seed)
			}
			agrees(t, p.s, p.b)
		}
		if len(p.s.walks) != 0 {
			t.Fatalf("%d walks are left", len(p.s.walks))
		}
	}
}
