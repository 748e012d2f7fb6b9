package resize_test

import (
	"math"
	"slices"
	"testing"

	"weighbridge/api"
	"weighbridge/resize"
)

// highest is the highest hash.
const highest = math.MaxUint64

// cell is a place as layer 13's words have it: empty, or an entry, or a mark.
type cell struct {
	entry *api.Entry
	mark  bool
}

// book is a table as layer 13's words have it.
type book []cell

// put lays an entry at the first place of its way that has none.
func (b book) put(e api.Entry) {
	at := int(e.Hash % uint64(len(b)))
	for b[at].entry != nil {
		at = (at + 1) % len(b)
	}
	b[at] = cell{entry: &e}
}

// found tells the places, by the order of a hash's way, of the entries with this hash.
func (b book) found(hash uint64) []int {
	var places []int
	for i := range b {
		at := (int(hash%uint64(len(b))) + i) % len(b)
		if b[at].entry == nil && !b[at].mark {
			break
		}
		if b[at].entry != nil && b[at].entry.Hash == hash {
			places = append(places, at)
		}
	}
	return places
}

// entries tells the entries, by their places.
func (b book) entries() []api.Entry {
	var list []api.Entry
	for _, c := range b {
		if c.entry != nil {
			list = append(list, *c.entry)
		}
	}
	return list
}

// marks tells how many marks there are.
func (b book) marks() int {
	n := 0
	for _, c := range b {
		if c.mark {
			n++
		}
	}
	return n
}

// used tells how many places are not empty.
func (b book) used() int {
	return len(b.entries()) + b.marks()
}

// model is a growing table as the chapter's words have it.
type model struct {
	most      int
	now, next book // next is nil, unless it moves
	cursor    int
}

// starts tells whether it begins to move ahead of a Put.
func (m *model) starts() bool {
	if m.next != nil || m.now.used() <= len(m.now)/2 {
		return false
	}
	return len(m.now) < m.most || m.now.marks() >= len(m.now)/8
}

// start lays the next one beside.
func (m *model) start() {
	places := m.most
	for n := m.most; n >= 16 && n >= 4*len(m.now.entries()); n /= 2 {
		places = n
	}
	m.next, m.cursor = make(book, places), 0
}

// put tells what a Put is answered.
func (m *model) put(e api.Entry) api.Errno {
	if m.starts() {
		m.start()
	}
	into, used := m.now, m.now.used()
	if m.next != nil {
		into, used = m.next, m.next.used()+len(m.now.entries())
	}
	if used+1 > len(into)/4*3 {
		return api.ErrFull
	}
	into.put(e)
	return api.OK
}

// whats tells what a Find of a hash asks for, if nothing ends it.
func (m *model) whats(hash uint64) []uint32 {
	var list []uint32
	for _, b := range []book{m.now, m.next} {
		for _, at := range b.found(hash) {
			list = append(list, b[at].entry.What)
		}
	}
	return list
}

// drop tells what a Drop is answered.
func (m *model) drop(e api.Entry) api.Errno {
	for _, b := range []book{m.now, m.next} {
		for _, at := range b.found(e.Hash) {
			if b[at].entry.What == e.What {
				b[at] = cell{mark: true}
				return api.OK
			}
		}
	}
	return api.ErrNone
}

// step tells what a Step is answered.
func (m *model) step() bool {
	if m.next == nil {
		return false
	}
	if e := m.now[m.cursor].entry; e != nil {
		m.next.put(*e)
		m.now[m.cursor] = cell{mark: true}
	}
	m.cursor++
	if m.cursor == len(m.now) {
		m.now, m.next, m.cursor = m.next, nil, 0
	}
	return m.next != nil
}

// left tells how many steps are left.
func (m *model) left() int {
	if m.next == nil {
		return 0
	}
	return len(m.now) - m.cursor
}

// all tells all entries.
func (m *model) all() []api.Entry {
	return append(m.now.entries(), m.next.entries()...)
}

// copied tells another one just like it.
func (m *model) copied() *model {
	return &model{most: m.most, now: slices.Clone(m.now), next: slices.Clone(m.next), cursor: m.cursor}
}

// row tells numbers from a seed, one by one.
func row(seed uint64) func() uint64 {
	return func() uint64 {
		seed = seed*6364136223846793005 + 1442695040888963407
		return seed ^ seed>>29
	}
}

// made tells a growing table of so many places at most, nothing in it.
func made(t *testing.T, most int) *resize.Growing {
	t.Helper()
	g, e := resize.New(most)
	if e != api.OK || g == nil {
		t.Fatalf("New(%d) = %v, %d", most, g, e)
	}
	return g
}

// entry tells an entry whose hash and number are the same.
func entry(n int) api.Entry {
	return api.Entry{Hash: uint64(n), What: uint32(n)}
}

// puts puts the entries from one number up to another one, each of which has room.
func puts(t *testing.T, g *resize.Growing, from, to int) {
	t.Helper()
	for n := from; n < to; n++ {
		if e := g.Put(entry(n)); e != api.OK {
			t.Fatalf("Put(%d) = %d", n, e)
		}
	}
}

// refuses puts an entry that has no room.
func refuses(t *testing.T, g *resize.Growing, n int) {
	t.Helper()
	if e := g.Put(entry(n)); e != api.ErrFull {
		t.Fatalf("Put(%d) = %d, want ErrFull", n, e)
	}
}

// drops drops the entries from one number up to another one, each of which is there.
func drops(t *testing.T, g *resize.Growing, from, to int) {
	t.Helper()
	for n := from; n < to; n++ {
		if e := g.Drop(entry(n)); e != api.OK {
			t.Fatalf("Drop(%d) = %d", n, e)
		}
	}
}

// steps does steps, of which the last one ends the move if end says so, and no other one does.
func steps(t *testing.T, g *resize.Growing, n int, end bool) {
	t.Helper()
	for i := range n {
		if more, want := g.Step(), !end || i < n-1; more != want {
			t.Fatalf("step %d of %d tells %v", i+1, n, more)
		}
	}
}

// places holds how many places there are, and how many steps are left, against those that have to be.
func places(t *testing.T, g *resize.Growing, now, next, left int) {
	t.Helper()
	a, b := g.Places()
	if a != now || b != next || g.Left() != left {
		t.Fatalf("Places = %d, %d, %d steps left; want %d, %d, %d", a, b, g.Left(), now, next, left)
	}
}

// counts holds how many entries and marks there are against those that have to be.
func counts(t *testing.T, g *resize.Growing, entries, marks int) {
	t.Helper()
	if g.Entries() != entries || g.Marks() != marks {
		t.Fatalf("%d entries, %d marks; want %d, %d", g.Entries(), g.Marks(), entries, marks)
	}
}

// only tells a function that says true of one number alone.
func only(want uint32) func(uint32) bool {
	return func(what uint32) bool { return what == want }
}

// finds looks for a number under a hash, which has to be there.
func finds(t *testing.T, g *resize.Growing, hash uint64, what uint32) {
	t.Helper()
	if got, ok := g.Find(hash, only(what)); got != what || !ok {
		t.Fatalf("Find(%d, %d) = %d, %v", hash, what, got, ok)
	}
}

// findsAll looks for the entries from one number up to another one.
func findsAll(t *testing.T, g *resize.Growing, from, to int) {
	t.Helper()
	for n := from; n < to; n++ {
		finds(t, g, uint64(n), uint32(n))
	}
}

// asks tells what a Find asks for, if nothing is what it looks for.
func asks(t *testing.T, g *resize.Growing, hash uint64) []uint32 {
	t.Helper()
	var whats []uint32
	got, ok := g.Find(hash, func(what uint32) bool {
		whats = append(whats, what)
		return false
	})
	if got != 0 || ok {
		t.Fatalf("Find(%d) of what is nowhere = %d, %v", hash, got, ok)
	}
	return whats
}

// asking holds what a Find asks for against what it has to.
func asking(t *testing.T, g *resize.Growing, hash uint64, want ...uint32) {
	t.Helper()
	if got := asks(t, g, hash); !slices.Equal(got, want) {
		t.Fatalf("Find(%d) asks %v, want %v", hash, got, want)
	}
}

// whats tells what the entries are of that All tells.
func whats(g *resize.Growing) []uint32 {
	var list []uint32
	for e := range g.All() {
		list = append(list, e.What)
	}
	return list
}

// telling holds what All tells against what it has to.
func telling(t *testing.T, g *resize.Growing, want ...uint32) {
	t.Helper()
	if got := whats(g); !slices.Equal(got, want) {
		t.Fatalf("All tells %v, want %v", got, want)
	}
}

// like holds all that a growing table tells against a model.
func like(t *testing.T, g *resize.Growing, m *model) {
	t.Helper()
	places(t, g, len(m.now), len(m.next), m.left())
	counts(t, g, len(m.all()), m.now.marks()+m.next.marks())
	if got, want := slices.Collect(g.All()), m.all(); !slices.Equal(got, want) {
		t.Fatalf("All tells %v, want %v", got, want)
	}
	for _, e := range m.all() {
		asking(t, g, e.Hash, m.whats(e.Hash)...)
		finds(t, g, e.Hash, e.What)
	}
}

// grown tells one that has so many places, a power of four times 16, and does not move: the entries from 0 on, half as many as the one ahead had places, and two.
func grown(t *testing.T, most, want int) *resize.Growing {
	t.Helper()
	g, n := made(t, most), 0
	for now := 16; now < want; now *= 4 {
		puts(t, g, n, now/2+1)
		places(t, g, now, 0, 0)
		n = now/2 + 2
		puts(t, g, n-1, n)
		places(t, g, now, min(4*now, most), now)
		steps(t, g, now, true)
	}
	places(t, g, want, 0, 0)
	return g
}

// crowd tells one of so many places, and of a greater most, that is crowded by so many entries (from 0 on), and marks for the rest, and does not move.
func crowd(t *testing.T, now, entries int) *resize.Growing {
	t.Helper()
	g := grown(t, api.MaxPlaces, now)
	n := now/2 + 1
	puts(t, g, g.Entries(), n)
	drops(t, g, entries, n)
	places(t, g, now, 0, 0)
	counts(t, g, entries, n-entries)
	return g
}

// P14.1: a most is a power of two from 16 to 262144; no other one may be.
func TestNewHoldsToItsBounds(t *testing.T) {
	may := map[int]bool{}
	for n := 16; n <= 262144; n *= 2 {
		may[n] = true
	}
	tried := []int{math.MinInt, math.MinInt32, math.MaxInt32, math.MaxInt, api.MaxPlaces - 1, api.MaxPlaces + 1, 2 * api.MaxPlaces}
	for n := -70; n <= 4200; n++ {
		tried = append(tried, n)
	}
	for bit := range 63 {
		tried = append(tried, 1<<bit-1, 1<<bit, 1<<bit+1, 3<<bit, -1<<bit)
	}
	for _, n := range tried {
		g, e := resize.New(n)
		if may[n] {
			if e != api.OK || g == nil {
				t.Fatalf("New(%d) = %v, %d", n, g, e)
			}
			places(t, g, 16, 0, 0)
		} else if e != api.ErrArg || g != nil {
			t.Fatalf("New(%d) = %v, %d", n, g, e)
		}
	}
}

// P14.1, P14.2: a new one has 16 places, whatever its most is, nothing in it, and does not move.
func TestNewHasNothing(t *testing.T) {
	for most := 16; most <= api.MaxPlaces; most *= 2 {
		g := made(t, most)
		like(t, g, &model{most: most, now: make(book, 16)})
		if g.Step() {
			t.Fatal("it moves")
		}
		for hash := range uint64(40) {
			asking(t, g, hash)
			if e := g.Drop(api.Entry{Hash: hash}); e != api.ErrNone {
				t.Fatalf("Drop = %d", e)
			}
		}
		places(t, g, 16, 0, 0)
		counts(t, g, 0, 0)
	}
}

// P14.1, P14.2: the chapter's examples.
func TestExamples(t *testing.T) {
	g := made(t, 64)
	puts(t, g, 0, 9)
	places(t, g, 16, 0, 0)
	puts(t, g, 9, 10)
	places(t, g, 16, 64, 16)
	steps(t, g, 16, true)
	places(t, g, 64, 0, 0)
}

// P14.1: a table is crowded by more than half of its places, not by half of them, by entries and marks alike; a Find, a Drop and a Step never begin to move.
func TestWhatIsCrowded(t *testing.T) {
	for _, now := range []int{16, 64, 256} {
		for _, entries := range []int{0, 1, now / 4, now/2 - 1, now / 2, now/2 + 1} {
			g := crowd(t, now, entries)
			asking(t, g, highest)
			if g.Step() || g.Drop(entry(now)) != api.ErrNone {
				t.Fatal("there is something that is not")
			}
			places(t, g, now, 0, 0)
			puts(t, g, now-1, now)
			if _, next := g.Places(); next == 0 || g.Left() != now {
				t.Fatalf("crowded by %d entries of %d places, it does not move", entries, now)
			}
		}
	}
}

// P14.1: a Put into a table of which half is taken, by marks and entries, begins no move.
func TestWhatIsNotCrowded(t *testing.T) {
	for entries := range 9 {
		g := made(t, 64)
		puts(t, g, 0, 8)
		drops(t, g, entries, 8)
		puts(t, g, 12, 13)
		places(t, g, 16, 0, 0)
		counts(t, g, entries+1, 8-entries)
		puts(t, g, 13, 14)
		if _, next := g.Places(); next == 0 {
			t.Fatalf("crowded by %d entries, it does not move", entries+1)
		}
	}
}

// P14.1: a Put that takes a mark's place leaves a table as crowded as it was.
func TestPutTakesAMark(t *testing.T) {
	g := made(t, 64)
	puts(t, g, 0, 8)
	for range 20 {
		drops(t, g, 0, 8)
		counts(t, g, 0, 8)
		puts(t, g, 0, 8)
		counts(t, g, 8, 0)
		places(t, g, 16, 0, 0)
	}
}

// P14.1: the next one has the least power of two of at least 16, and at least 4 times the entries; marks count for nothing in it.
func TestHowManyPlacesTheNextOneHas(t *testing.T) {
	for _, x := range []struct{ now, entries, next int }{
		{16, 0, 16}, {16, 1, 16}, {16, 3, 16}, {16, 4, 16}, {16, 5, 32}, {16, 7, 32}, {16, 8, 32}, {16, 9, 64},
		{64, 0, 16}, {64, 4, 16}, {64, 5, 32}, {64, 8, 32}, {64, 9, 64}, {64, 16, 64}, {64, 17, 128}, {64, 32, 128}, {64, 33, 256},
		{256, 4, 16}, {256, 64, 256}, {256, 65, 512}, {256, 128, 512}, {256, 129, 1024},
		{4096, 1, 16}, {4096, 1024, 4096}, {4096, 1025, 8192}, {4096, 2048, 8192}, {4096, 2049, 16384},
	} {
		g := crowd(t, x.now, x.entries)
		n := x.now - 1
		puts(t, g, n, n+1)
		places(t, g, x.now, x.next, x.now)
		counts(t, g, x.entries+1, x.now/2+1-x.entries)
		finds(t, g, uint64(n), uint32(n))
		steps(t, g, x.now, true)
		places(t, g, x.next, 0, 0)
		counts(t, g, x.entries+1, 0)
		findsAll(t, g, 0, x.entries)
	}
}

// P14.1: the next one has most places at most.
func TestTheNextOneHasMostPlacesAtMost(t *testing.T) {
	g := made(t, 32)
	puts(t, g, 0, 10)
	places(t, g, 16, 32, 16)
	g = grown(t, 128, 64)
	puts(t, g, g.Entries(), 34)
	places(t, g, 64, 128, 64)
	steps(t, g, 64, true)
	puts(t, g, 34, 96)
	places(t, g, 128, 0, 0)
	drops(t, g, 0, 16)
	puts(t, g, 128, 129)
	places(t, g, 128, 128, 128)
}

// full tells one of the most places, with three quarters of them entries (from 0 on), and no marks, that does not move.
func full(t *testing.T, most int) *resize.Growing {
	t.Helper()
	g := made(t, most)
	for n := range most / 4 * 3 {
		for g.Left() > 0 {
			g.Step()
		}
		puts(t, g, n, n+1)
	}
	places(t, g, most, 0, 0)
	counts(t, g, most/4*3, 0)
	return g
}

// P14.1: three quarters of the most places may be entries, and no more; there a move begins only if at least an eighth of them are marks, and by the next Put, not by a Drop.
func TestATableOfMostPlaces(t *testing.T) {
	for most := 16; most <= 4096; most *= 2 {
		g := full(t, most)
		n := most / 4 * 3
		for i := range most/8 - 1 {
			refuses(t, g, n)
			drops(t, g, i, i+1)
			counts(t, g, n-1-i, i+1)
		}
		refuses(t, g, n)
		places(t, g, most, 0, 0)
		drops(t, g, most/8-1, most/8)
		places(t, g, most, 0, 0)
		puts(t, g, n, n+1)
		places(t, g, most, most, most)
		counts(t, g, n-most/8+1, most/8)
		steps(t, g, most, true)
		counts(t, g, n-most/8+1, 0)
		findsAll(t, g, most/8, n+1)
	}
}

// P14.1: a table of most places that is crowded, but has too few marks, takes entries without a move, and one that has the marks, but is not crowded, too.
func TestATableOfMostPlacesThatDoesNotMove(t *testing.T) {
	g := made(t, 16)
	puts(t, g, 0, 9)
	drops(t, g, 0, 1)
	puts(t, g, 9, 10)
	places(t, g, 16, 0, 0)
	counts(t, g, 9, 1)
	puts(t, g, 10, 12)
	places(t, g, 16, 0, 0)
	refuses(t, g, 12)
	g = made(t, 16)
	puts(t, g, 0, 8)
	drops(t, g, 0, 6)
	puts(t, g, 8, 9)
	places(t, g, 16, 0, 0)
	counts(t, g, 3, 6)
	puts(t, g, 9, 10)
	places(t, g, 16, 16, 16)
}

// P14.1: a table of most places may move to a smaller one.
func TestATableOfMostPlacesThatShrinks(t *testing.T) {
	g := full(t, 256)
	drops(t, g, 3, 192)
	puts(t, g, 500, 501)
	places(t, g, 256, 16, 256)
	steps(t, g, 256, true)
	places(t, g, 16, 0, 0)
	counts(t, g, 4, 0)
	findsAll(t, g, 0, 3)
	finds(t, g, 500, 500)
}

// P14.1: what is refused changes nothing: not what there is, nor whether it moves.
func TestWhatIsRefused(t *testing.T) {
	g := full(t, 64)
	list := whats(g)
	for n := range 200 {
		refuses(t, g, n)
	}
	places(t, g, 64, 0, 0)
	counts(t, g, 48, 0)
	telling(t, g, list...)
}

// P14.1: while it moves, three quarters of the next one's places may be its entries and its marks, and the entries that are to come; the marks of now do not count.
func TestRoomWhileItMoves(t *testing.T) {
	for left := 64; left > 0; left -= 7 {
		g := crowd(t, 64, 33)
		puts(t, g, 33, 34)
		steps(t, g, 64-left, false)
		puts(t, g, 34, 192)
		refuses(t, g, 192)
		places(t, g, 64, 256, left)
		counts(t, g, 192, min(33, 64-left))
		drops(t, g, 34, 36)
		refuses(t, g, 192)
		counts(t, g, 190, min(33, 64-left)+2)
		drops(t, g, 32, 33)
		if g.Left() > 31 {
			puts(t, g, 192, 193)
		}
		refuses(t, g, 193)
		steps(t, g, left, true)
		places(t, g, 256, 0, 0)
		findsAll(t, g, 0, 32)
		findsAll(t, g, 36, 192)
	}
}

// P14.1: an entry that takes a mark's place in the next one has no more room than any other one.
func TestRoomIsCountedBeforeAMarkIsTaken(t *testing.T) {
	g := made(t, 16)
	puts(t, g, 0, 12)
	drops(t, g, 0, 1)
	refuses(t, g, 0)
	refuses(t, g, 16)
	counts(t, g, 11, 1)
	g = made(t, 16)
	puts(t, g, 0, 9)
	drops(t, g, 0, 7)
	puts(t, g, 9, 19)
	places(t, g, 16, 16, 16)
	counts(t, g, 12, 7)
	drops(t, g, 9, 10)
	refuses(t, g, 9)
	counts(t, g, 11, 8)
	drops(t, g, 7, 8)
	puts(t, g, 9, 10)
	counts(t, g, 11, 8)
}

// P14.1: while it moves, nothing begins anew, however crowded both tables are; the next move begins by the first Put behind.
func TestNoMoveBeginsWhileItMoves(t *testing.T) {
	g := made(t, 1024)
	puts(t, g, 0, 10)
	for n := 10; n < 40; n++ {
		puts(t, g, n, n+1)
		places(t, g, 16, 64, 16)
	}
	for left := 15; left > 0; left-- {
		steps(t, g, 1, false)
		drops(t, g, 39, 40)
		puts(t, g, 39, 40)
		places(t, g, 16, 64, left)
		counts(t, g, 40, min(9, 16-left))
	}
	steps(t, g, 1, true)
	places(t, g, 64, 0, 0)
	puts(t, g, 40, 41)
	places(t, g, 64, 256, 64)
	counts(t, g, 41, 0)
}

// P14.1: while it moves, what is put goes to the next one, also where the one of now has room; All tells it behind all that are to move.
func TestPutWhileItMovesGoesToTheNextOne(t *testing.T) {
	g := made(t, 64)
	puts(t, g, 0, 9)
	for _, n := range []int{40, 14, 30, 9} {
		puts(t, g, n, n+1)
	}
	telling(t, g, 0, 1, 2, 3, 4, 5, 6, 7, 8, 9, 14, 30, 40)
	steps(t, g, 15, false)
	puts(t, g, 15, 16)
	puts(t, g, 20, 21)
	telling(t, g, 0, 1, 2, 3, 4, 5, 6, 7, 8, 9, 14, 15, 20, 30, 40)
	steps(t, g, 1, true)
	puts(t, g, 16, 17)
	telling(t, g, 0, 1, 2, 3, 4, 5, 6, 7, 8, 9, 14, 15, 16, 20, 30, 40)
}

// P14.1: what is put is not held against what is there: the same entry is there as often as it was put.
func TestPutOfTheSameEntryTwice(t *testing.T) {
	g := made(t, 64)
	for range 12 {
		puts(t, g, 5, 6)
	}
	counts(t, g, 12, 0)
	asking(t, g, 5, 5, 5, 5, 5, 5, 5, 5, 5, 5, 5, 5, 5)
	for left := range 12 {
		counts(t, g, 12-left, left)
		drops(t, g, 5, 6)
	}
	if e := g.Drop(entry(5)); e != api.ErrNone {
		t.Fatalf("Drop = %d", e)
	}
}

// twice tells one that moves, at its first place, with entries of the hash 5, of 1 and 2 in the one of now, and of 3 and 4 in the next one.
func twice(t *testing.T) *resize.Growing {
	t.Helper()
	g := made(t, 64)
	for what := range uint32(3) {
		g.Put(api.Entry{Hash: 5, What: what})
	}
	puts(t, g, 8, 14)
	g.Put(api.Entry{Hash: 5, What: 3})
	g.Put(api.Entry{Hash: 5, What: 4})
	g.Drop(api.Entry{Hash: 5})
	places(t, g, 16, 64, 16)
	counts(t, g, 10, 1)
	return g
}

// P14.1: Find asks of the entries with this hash alone, those of the one of now ahead of those of the next one, up to the first true.
func TestFindAsksInOrder(t *testing.T) {
	g := twice(t)
	asking(t, g, 5, 1, 2, 3, 4)
	for last := range uint32(4) {
		var list []uint32
		what, ok := g.Find(5, func(what uint32) bool {
			list = append(list, what)
			return what > last
		})
		if what != last+1 || !ok || len(list) != int(last+1) {
			t.Fatalf("Find = %d, %v, asked %v", what, ok, list)
		}
	}
	asking(t, g, 21)
	asking(t, g, 69)
	steps(t, g, 6, false)
	asking(t, g, 5, 1, 2, 3, 4)
	steps(t, g, 1, false)
	asking(t, g, 5, 2, 3, 4, 1)
	steps(t, g, 1, false)
	asking(t, g, 5, 3, 4, 1, 2)
	steps(t, g, 8, true)
	asking(t, g, 5, 3, 4, 1, 2)
}

// P14.1: entries are found by their whole hash and number, in the one of now and in the next one.
func TestFindAsksByTheWholeHash(t *testing.T) {
	const hash = 0x923456789abcdef5
	for _, begun := range []bool{false, true} {
		g := made(t, 64)
		if begun {
			puts(t, g, 0, 10)
		}
		for _, what := range []uint32{math.MaxUint32, 0, 1 << 31} {
			if e := g.Put(api.Entry{Hash: hash, What: what}); e != api.OK {
				t.Fatalf("Put = %d", e)
			}
		}
		asking(t, g, hash, math.MaxUint32, 0, 1<<31)
		finds(t, g, hash, 0)
		for bit := range 64 {
			asking(t, g, hash^1<<bit)
		}
		for _, e := range []api.Entry{{Hash: hash, What: 1}, {Hash: hash ^ 1<<63, What: 0}, {Hash: hash & 0xffffffff, What: 0}, {Hash: hash, What: math.MaxInt32}} {
			if err := g.Drop(e); err != api.ErrNone {
				t.Fatalf("Drop(%v) = %d", e, err)
			}
		}
		for _, what := range []uint32{1 << 31, math.MaxUint32, 0} {
			if err := g.Drop(api.Entry{Hash: hash, What: what}); err != api.OK {
				t.Fatalf("Drop of %d = %d", what, err)
			}
			if _, ok := g.Find(hash, only(what)); ok {
				t.Fatalf("%d is found", what)
			}
		}
	}
}

// P14.1: a function that is not there says false, and one that panics, too.
func TestFindWithoutAFunction(t *testing.T) {
	g := twice(t)
	for range 17 {
		for _, hash := range []uint64{5, 8, 7} {
			if what, ok := g.Find(hash, nil); what != 0 || ok {
				t.Fatalf("Find without a function = %d, %v", what, ok)
			}
			if what, ok := g.Find(hash, func(uint32) bool { panic("is") }); what != 0 || ok {
				t.Fatalf("Find of a function that panics = %d, %v", what, ok)
			}
		}
		counts(t, g, 10, g.Marks())
		g.Step()
	}
}

// P14.1: Drop drops the first one that Find finds: of the one of now ahead of the next one; and no other one.
func TestDropTakesTheFirstOne(t *testing.T) {
	g := made(t, 64)
	puts(t, g, 0, 9)
	for range 3 {
		puts(t, g, 5, 6)
	}
	telling(t, g, 0, 1, 2, 3, 4, 5, 6, 7, 8, 5, 5, 5)
	drops(t, g, 5, 6)
	telling(t, g, 0, 1, 2, 3, 4, 6, 7, 8, 5, 5, 5)
	counts(t, g, 11, 1)
	drops(t, g, 5, 6)
	telling(t, g, 0, 1, 2, 3, 4, 6, 7, 8, 5, 5)
	counts(t, g, 10, 2)
	steps(t, g, 16, true)
	telling(t, g, 0, 1, 2, 3, 4, 5, 5, 6, 7, 8)
	counts(t, g, 10, 1)
}

// P14.1: Drop asks for hash and number: of a hash the right number is dropped, in each of both tables.
func TestDropAsksForTheNumber(t *testing.T) {
	for _, order := range [][]uint32{{1, 2, 3, 4}, {4, 3, 2, 1}, {3, 1, 4, 2}} {
		for done := range 16 {
			g := twice(t)
			if done > 0 {
				steps(t, g, done, false)
			}
			for i, what := range order {
				if e := g.Drop(api.Entry{Hash: 5, What: what}); e != api.OK {
					t.Fatalf("Drop of %d = %d", what, e)
				}
				if e := g.Drop(api.Entry{Hash: 5, What: what}); e != api.ErrNone {
					t.Fatalf("Drop of %d anew = %d", what, e)
				}
				if got := asks(t, g, 5); len(got) != 3-i || slices.Contains(got, what) {
					t.Fatalf("behind Drop of %d: %v", what, got)
				}
			}
			for n := 8; n < 14; n++ {
				finds(t, g, uint64(n), uint32(n))
			}
		}
	}
}

// P14.1: a dropped entry leaves a mark where it stood: those of now are gone with it, those of the next one stay.
func TestDropLeavesAMark(t *testing.T) {
	g := made(t, 64)
	puts(t, g, 0, 20)
	drops(t, g, 3, 6)
	counts(t, g, 17, 3)
	drops(t, g, 12, 14)
	counts(t, g, 15, 5)
	steps(t, g, 2, false)
	counts(t, g, 15, 7)
	drops(t, g, 0, 1)
	counts(t, g, 14, 8)
	steps(t, g, 14, true)
	counts(t, g, 14, 3)
	telling(t, g, 1, 2, 6, 7, 8, 9, 10, 11, 14, 15, 16, 17, 18, 19)
}

// P14.2: a step moves the place at the cursor, just that one, an entry or none; an entry that was moved is a mark then.
func TestStepMovesOnePlace(t *testing.T) {
	g := made(t, 64)
	for _, n := range []int{13, 12, 9, 8, 7, 5, 4, 1, 0, 40} {
		puts(t, g, n, n+1)
	}
	drops(t, g, 12, 13)
	order := []uint32{0, 1, 4, 5, 7, 8, 9, 13}
	for done := range 16 {
		moved := 0
		for moved < len(order) && order[moved] < uint32(done) {
			moved++
		}
		places(t, g, 16, 64, 16-done)
		counts(t, g, 9, 1+moved)
		want := append(slices.Clone(order[moved:]), order[:moved]...)
		telling(t, g, append(want, 40)...)
		steps(t, g, 1, done == 15)
	}
	counts(t, g, 9, 0)
	telling(t, g, 0, 1, 4, 5, 7, 8, 9, 13, 40)
	if g.Step() {
		t.Fatal("it moves")
	}
	places(t, g, 64, 0, 0)
}

// P14.2: an entry is moved by its hash in the next one: to its place there, behind those that stand in its way, onto a mark.
func TestStepPutsByTheHash(t *testing.T) {
	g := made(t, 64)
	for n := range 9 {
		if e := g.Put(api.Entry{Hash: uint64(61 + n), What: uint32(n)}); e != api.OK {
			t.Fatalf("Put = %d", e)
		}
	}
	telling(t, g, 3, 4, 5, 6, 7, 8, 0, 1, 2)
	for what := range uint32(3) {
		g.Put(api.Entry{Hash: 63, What: 20 + what})
	}
	telling(t, g, 3, 4, 5, 6, 7, 8, 0, 1, 2, 21, 22, 20)
	g.Drop(api.Entry{Hash: 63, What: 21})
	counts(t, g, 11, 1)
	steps(t, g, 1, false)
	telling(t, g, 4, 5, 6, 7, 8, 0, 1, 2, 3, 22, 20)
	counts(t, g, 11, 1)
	steps(t, g, 15, true)
	telling(t, g, 3, 22, 4, 5, 6, 7, 8, 2, 0, 1, 20)
	counts(t, g, 11, 0)
}

// P14.1, P14.2: a move begins at the first place each time, also where the one ahead had fewer or more places.
func TestEachMoveBeginsAtTheFirstPlace(t *testing.T) {
	g := made(t, 256)
	puts(t, g, 0, 34)
	steps(t, g, 16, true)
	puts(t, g, 34, 36)
	places(t, g, 64, 256, 64)
	steps(t, g, 64, true)
	counts(t, g, 36, 0)
	puts(t, g, 36, 129)
	drops(t, g, 2, 129)
	puts(t, g, 200, 201)
	places(t, g, 256, 16, 256)
	steps(t, g, 256, true)
	telling(t, g, 0, 1, 200)
	puts(t, g, 3, 9)
	puts(t, g, 9, 11)
	places(t, g, 16, 64, 16)
	steps(t, g, 16, true)
	telling(t, g, 0, 1, 3, 4, 5, 6, 7, 200, 9, 10, 8)
}

// P14.2: what was put, and not dropped, is found at each step, and a move is at its end behind as many steps as there were places, whatever is put and dropped meanwhile (T2); no step lacks room.
func TestEachStepFindsAll(t *testing.T) {
	for _, now := range []int{16, 64, 256} {
		for seed := range uint64(6) {
			g, next := crowd(t, now, now/2+1), row(seed)
			puts(t, g, now/2+1, now/2+2)
			there := map[int]int{}
			for n := range now/2 + 2 {
				there[n]++
			}
			for left := now; left > 0; left-- {
				for range next() % 6 {
					n := int(next() % uint64(8*now))
					if there[n] > 0 {
						drops(t, g, n, n+1)
						delete(there, n)
					} else if g.Put(entry(n)) == api.OK {
						there[n]++
					}
				}
				if g.Left() != left || g.Step() != (left > 1) || g.Entries() != len(there) {
					t.Fatalf("%d steps left behind one that should leave %d; %d entries, want %d", g.Left(), left-1, g.Entries(), len(there))
				}
				for n := range there {
					finds(t, g, uint64(n), uint32(n))
				}
			}
		}
	}
}

// P14.1, P14.2: no step lacks room, though the next one is as full as it may be, at each step of the move.
func TestAStepNeverLacksRoom(t *testing.T) {
	for done := range 64 {
		g := crowd(t, 64, 17)
		puts(t, g, 100, 101)
		places(t, g, 64, 128, 64)
		for range done {
			g.Step()
		}
		n := 101
		for g.Put(entry(n)) == api.OK {
			n++
		}
		counts(t, g, 96, g.Marks())
		steps(t, g, 64-done, true)
		counts(t, g, 96, 0)
		findsAll(t, g, 0, 17)
		findsAll(t, g, 100, n)
	}
}

// P14.2: All tells as far as it is asked for, may be left at any time, and tells anew, by what there is then.
func TestAllIsLeftAndBegunAnew(t *testing.T) {
	g := made(t, 64)
	all := g.All()
	for range all {
		t.Fatal("All of an empty one tells something")
	}
	puts(t, g, 0, 12)
	for most := 1; most <= 12; most++ {
		n := 0
		for e := range all {
			if e != entry(n) {
				t.Fatalf("All tells %v, want %d", e, n)
			}
			n++
			if n == most {
				break
			}
		}
		calls := 0
		all(func(api.Entry) bool {
			calls++
			return calls < most
		})
		if n != most || calls != most {
			t.Fatalf("told %d and %d of %d", n, calls, most)
		}
	}
	pairs := 0
	for range all {
		for range all {
			pairs++
		}
	}
	if pairs != 144 {
		t.Fatalf("%d pairs", pairs)
	}
	all(nil)
	steps(t, g, 16, true)
	if got := slices.Collect(all); len(got) != 12 || got[11] != entry(11) {
		t.Fatalf("All tells %v", got)
	}
}

// P14.2: what All told may be dropped at once: all entries are told, and all are gone then.
func TestAllWhileDropping(t *testing.T) {
	g := made(t, 64)
	puts(t, g, 0, 30)
	n := 0
	for e := range g.All() {
		if err := g.Drop(e); err != api.OK {
			t.Fatalf("Drop(%v) = %d", e, err)
		}
		n++
	}
	if n != 30 {
		t.Fatalf("told %d", n)
	}
	counts(t, g, 0, 30)
}

// P1: Find and All end, and tell nothing that there is not, though it is changed by what they are handed.
func TestChangesWithin(t *testing.T) {
	for want := range uint32(9) {
		g := made(t, 64)
		for what := range uint32(10) {
			g.Put(api.Entry{Hash: 3, What: what})
		}
		got, ok := g.Find(3, func(what uint32) bool {
			for g.Left() > 0 {
				g.Step()
			}
			return what == want
		})
		if ok && got != want || !ok && got != 0 {
			t.Fatalf("Find of %d = %d, %v", want, got, ok)
		}
		findsOf(t, g, 3, 10)
	}
	g := made(t, 64)
	puts(t, g, 0, 12)
	for range g.All() {
		g.Step()
		g.Put(entry(g.Entries()))
	}
	findsAll(t, g, 0, 12)
	g.Find(0, func(uint32) bool {
		*g = resize.Growing{}
		return true
	})
	counts(t, g, 0, 0)
	g = made(t, 64)
	puts(t, g, 0, 12)
	for range g.All() {
		*g = resize.Growing{}
	}
	counts(t, g, 0, 0)
}

// findsOf looks for the numbers below one under a hash.
func findsOf(t *testing.T, g *resize.Growing, hash uint64, below uint32) {
	t.Helper()
	for what := range below {
		finds(t, g, hash, what)
	}
}

// P14.2: a copy is just like it, its cursor and its most too, and each of both goes its own way, at each step of a move.
func TestCopyGoesItsOwnWay(t *testing.T) {
	for done := range 17 {
		g := made(t, 32)
		puts(t, g, 0, 14)
		drops(t, g, 11, 12)
		drops(t, g, 6, 7)
		for range done {
			g.Step()
		}
		m := modelOf(t, 32, 14, []int{11, 6}, done)
		h, o := g.Copy(), m.copied()
		if h == nil || h == g {
			t.Fatal("Copy is none")
		}
		like(t, h, o)
		for i := range 40 {
			e := entry(i * 3)
			if got, want := g.Put(e), m.put(e); got != want {
				t.Fatalf("Put(%v) = %d, want %d", e, got, want)
			}
			if got, want := g.Step(), m.step(); got != want {
				t.Fatalf("Step = %v, want %v", got, want)
			}
		}
		drops(t, g, 3, 5)
		m.drop(entry(3))
		m.drop(entry(4))
		like(t, g, m)
		like(t, h, o)
		for i := range 40 {
			e := entry(i*5 + 1)
			if got, want := h.Put(e), o.put(e); got != want {
				t.Fatalf("Put(%v) = %d, want %d", e, got, want)
			}
			if got, want := h.Step(), o.step(); got != want {
				t.Fatalf("Step = %v, want %v", got, want)
			}
			like(t, h, o)
		}
		like(t, g, m)
	}
}

// modelOf tells a model into which entries were put, from 0 on, some dropped, and so many steps done.
func modelOf(t *testing.T, most, puts int, drops []int, steps int) *model {
	t.Helper()
	m := &model{most: most, now: make(book, 16)}
	for n := range puts {
		m.put(entry(n))
	}
	for _, n := range drops {
		m.drop(entry(n))
	}
	for range steps {
		m.step()
	}
	return m
}

// P14.1, P14.2, P1: one that is not there, or was not made, tells ErrNil, or nothing, whatever it is asked.
func TestWhatIsNotThere(t *testing.T) {
	for _, g := range []*resize.Growing{nil, {}} {
		for _, hash := range []uint64{0, 1, highest} {
			e := api.Entry{Hash: hash, What: 1}
			if err := g.Put(e); err != api.ErrNil {
				t.Fatalf("Put = %d", err)
			}
			if err := g.Drop(e); err != api.ErrNil {
				t.Fatalf("Drop = %d", err)
			}
			asking(t, g, hash)
			if what, ok := g.Find(hash, func(uint32) bool { return true }); what != 0 || ok {
				t.Fatalf("Find = %d, %v", what, ok)
			}
			if what, ok := g.Find(hash, nil); what != 0 || ok {
				t.Fatalf("Find = %d, %v", what, ok)
			}
		}
		if g.Step() {
			t.Fatal("it moves")
		}
		places(t, g, 0, 0, 0)
		counts(t, g, 0, 0)
		all := g.All()
		if all == nil {
			t.Fatal("All is not there")
		}
		for range all {
			t.Fatal("All tells something")
		}
		all(nil)
		if h := g.Copy(); h != nil {
			t.Fatalf("Copy = %v", h)
		}
	}
}

// spread tells an entry whose hash is far from those of its neighbours.
func spread(n int) api.Entry {
	return api.Entry{Hash: uint64(n) * 0x9e3779b97f4a7c15, What: uint32(n)}
}

// P14.1, P14.2: the greatest one takes three quarters of its places, and a move of it finds each entry, and comes to its end.
func TestTheGreatestOne(t *testing.T) {
	const most, n = api.MaxPlaces, api.MaxPlaces / 4 * 3
	g := made(t, most)
	for i := range n {
		for g.Left() > 0 {
			g.Step()
		}
		if e := g.Put(spread(i)); e != api.OK {
			t.Fatalf("Put(%d) = %d", i, e)
		}
	}
	places(t, g, most, 0, 0)
	if e := g.Put(spread(n)); e != api.ErrFull {
		t.Fatalf("Put into a full one = %d", e)
	}
	for i := range most / 8 {
		if e := g.Drop(spread(i)); e != api.OK {
			t.Fatalf("Drop(%d) = %d", i, e)
		}
	}
	if e := g.Put(spread(n)); e != api.OK {
		t.Fatalf("Put = %d", e)
	}
	places(t, g, most, most, most)
	for _, x := range []int{most / 3, most / 3, most - most/3*2} {
		counts(t, g, n+1-most/8, g.Marks())
		for i := most / 8; i <= n; i++ {
			finds(t, g, spread(i).Hash, uint32(i))
		}
		steps(t, g, x, g.Left() == x)
	}
	places(t, g, most, 0, 0)
	counts(t, g, n+1-most/8, 0)
	for i := most / 8; i <= n; i++ {
		finds(t, g, spread(i).Hash, uint32(i))
	}
}

// walk does what a number tells with a growing table and its model, and holds both against one another; pace tells how often a step comes, and lean how much is put.
func walk(t *testing.T, g *resize.Growing, m *model, n, pace, lean uint64) {
	t.Helper()
	hash := n>>8%uint64(2*m.most) - uint64(m.most)/2
	e := api.Entry{Hash: hash, What: uint32(n >> 33 % 5)}
	switch {
	case n%16 < pace:
		if got, want := g.Step(), m.step(); got != want {
			t.Fatalf("Step = %v, want %v", got, want)
		}
	case n>>4%16 < lean:
		if got, want := g.Put(e), m.put(e); got != want {
			t.Fatalf("Put(%v) = %d, want %d", e, got, want)
		}
	default:
		if list := m.all(); len(list) > 0 && n>>50%4 > 0 {
			e = list[n>>40%uint64(len(list))]
		}
		asking(t, g, e.Hash, m.whats(e.Hash)...)
		if got, want := g.Drop(e), m.drop(e); got != want {
			t.Fatalf("Drop(%v) = %d, want %d", e, got, want)
		}
	}
	places(t, g, len(m.now), len(m.next), m.left())
}

// P14.1, P14.2: long walks, that fill it up and empty it by turns, with many steps and few, and their copies, tell what the chapter's words tell.
func TestWalks(t *testing.T) {
	for _, most := range []int{16, 32, 64, 256, 1024} {
		for seed := range uint64(9) {
			next := row(seed<<12 | uint64(most))
			g, m := made(t, most), &model{most: most, now: make(book, 16)}
			var old *resize.Growing
			var oldModel *model
			for i := range uint64(3000) {
				walk(t, g, m, next(), 1+seed%3*5, 5+3*(i/400%3))
				if i%50 == 0 {
					like(t, g, m)
				}
				if i%500 == 499 {
					if old != nil {
						like(t, old, oldModel)
					}
					old, oldModel = g, m.copied()
					g = g.Copy()
				}
			}
			like(t, g, m)
		}
	}
}
