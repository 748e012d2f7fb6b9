package table_test

import (
	"math"
	"slices"
	"testing"

	"weighbridge/api"
	"weighbridge/table"
)

// highest is the highest hash.
const highest = math.MaxUint64

// wrong is numbers of places that there are none of, in a table of any size.
var wrong = []int{math.MinInt, math.MinInt32, -api.MaxPlaces, -8, -2, -1, api.MaxPlaces, api.MaxPlaces + 1, math.MaxInt32, 1 << 32, math.MaxInt}

// cell is a place as the chapter's words have it: empty, or an entry, or a mark.
type cell struct {
	entry *api.Entry
	mark  bool
}

// book is a table as the chapter's words have it.
type book []cell

// first tells the place that a hash's way begins with.
func (b book) first(hash uint64) int {
	return int(hash % uint64(len(b)))
}

// put tells what a Put is answered.
func (b book) put(e api.Entry) (int, api.Errno) {
	at := b.first(e.Hash)
	for range b {
		if b[at].entry == nil {
			b[at] = cell{entry: &e}
			return at, api.OK
		}
		at++
		if at == len(b) {
			at = 0
		}
	}
	return 0, api.ErrFull
}

// asked tells what a Find asks for, in that order, and the places of these entries, if nothing ends it.
func (b book) asked(hash uint64) ([]uint32, []int) {
	var whats []uint32
	var places []int
	at := b.first(hash)
	for range b {
		if b[at].entry == nil && !b[at].mark {
			break
		}
		if e := b[at].entry; e != nil && e.Hash == hash {
			whats, places = append(whats, e.What), append(places, at)
		}
		at++
		if at == len(b) {
			at = 0
		}
	}
	return whats, places
}

// drop tells what a Drop is answered.
func (b book) drop(at int) api.Errno {
	if at < 0 || at >= len(b) {
		return api.ErrArg
	}
	if b[at].entry == nil {
		return api.ErrNone
	}
	b[at] = cell{mark: true}
	return api.OK
}

// taken tells the places with entries.
func (b book) taken() []int {
	var list []int
	for at, c := range b {
		if c.entry != nil {
			list = append(list, at)
		}
	}
	return list
}

// marks tells how many marks there are.
func (b book) marks() int {
	n := 0
	for _, c := range b {
		if c.mark {
			n++
		}
	}
	return n
}

// row tells numbers from a seed, one by one.
func row(seed uint64) func() uint64 {
	return func() uint64 {
		seed = seed*6364136223846793005 + 1442695040888963407
		return seed ^ seed>>29
	}
}

// made tells a table of so many places, nothing in it.
func made(t *testing.T, places int) *table.Table {
	t.Helper()
	x, e := table.New(places)
	if e != api.OK || x == nil {
		t.Fatalf("New(%d) = %v, %d", places, x, e)
	}
	return x
}

// puts puts an entry that has to stand at a place.
func puts(t *testing.T, x *table.Table, hash uint64, what uint32, want int) {
	t.Helper()
	if at, e := x.Put(api.Entry{Hash: hash, What: what}); at != want || e != api.OK {
		t.Fatalf("Put(%d, %d) = %d, %d; want %d", hash, what, at, e, want)
	}
}

// drops drops the entries at places, each of which has one.
func drops(t *testing.T, x *table.Table, places ...int) {
	t.Helper()
	for _, at := range places {
		if e := x.Drop(at); e != api.OK {
			t.Fatalf("Drop(%d) = %d", at, e)
		}
	}
}

// always says true of anything.
func always(uint32) bool { return true }

// only tells a function that says true of one number alone.
func only(want uint32) func(uint32) bool {
	return func(what uint32) bool { return what == want }
}

// finds looks for a number under a hash that has to be found at a place.
func finds(t *testing.T, x *table.Table, hash uint64, what uint32, want int) {
	t.Helper()
	if at, ok := x.Find(hash, only(what)); at != want || !ok {
		t.Fatalf("Find(%d, %d) = %d, %v; want %d", hash, what, at, ok, want)
	}
}

// misses looks for anything under a hash that has nothing.
func misses(t *testing.T, x *table.Table, hash uint64) {
	t.Helper()
	if at, ok := x.Find(hash, always); at != 0 || ok {
		t.Fatalf("Find(%d) = %d, %v", hash, at, ok)
	}
}

// asks tells what a Find asked for, if nothing is what it looks for.
func asks(t *testing.T, x *table.Table, hash uint64) []uint32 {
	t.Helper()
	var whats []uint32
	at, ok := x.Find(hash, func(what uint32) bool {
		whats = append(whats, what)
		return false
	})
	if at != 0 || ok {
		t.Fatalf("Find(%d) of what is nowhere = %d, %v", hash, at, ok)
	}
	return whats
}

// counts holds a table's numbers against those that have to be.
func counts(t *testing.T, x *table.Table, places, entries, marks int) {
	t.Helper()
	if x.Places() != places || x.Entries() != entries || x.Marks() != marks {
		t.Fatalf("%d places, %d entries, %d marks; want %d, %d, %d", x.Places(), x.Entries(), x.Marks(), places, entries, marks)
	}
}

// told tells the places that All tells, and holds each entry against Get.
func told(t *testing.T, x *table.Table) []int {
	t.Helper()
	var list []int
	for at, e := range x.All() {
		if got, ok := x.Get(at); got != e || !ok {
			t.Fatalf("All tells %v at %d, Get %v, %v", e, at, got, ok)
		}
		list = append(list, at)
	}
	return list
}

// like holds all that a table tells against a book.
func like(t *testing.T, x *table.Table, b book) {
	t.Helper()
	counts(t, x, len(b), len(b.taken()), b.marks())
	for at, c := range b {
		e, ok := x.Get(at)
		if ok != (c.entry != nil) || ok && e != *c.entry || !ok && e != (api.Entry{}) {
			t.Fatalf("Get(%d) = %v, %v; want %v", at, e, ok, c.entry)
		}
	}
	if got := told(t, x); !slices.Equal(got, b.taken()) {
		t.Fatalf("All tells %v, want %v", got, b.taken())
	}
}

// P13.1: a number of places is a power of two from 8 to 262144; no other one may be.
func TestNewHoldsToItsBounds(t *testing.T) {
	may := map[int]bool{}
	for n := 8; n <= 262144; n *= 2 {
		may[n] = true
	}
	tried := slices.Clone(wrong)
	for n := -70; n <= 4200; n++ {
		tried = append(tried, n)
	}
	for bit := range 63 {
		tried = append(tried, 1<<bit-1, 1<<bit, 1<<bit+1, 3<<bit, -1<<bit)
	}
	for _, n := range tried {
		x, e := table.New(n)
		if may[n] {
			if e != api.OK || x == nil {
				t.Fatalf("New(%d) = %v, %d", n, x, e)
			}
			counts(t, x, n, 0, 0)
		} else if e != api.ErrArg || x != nil {
			t.Fatalf("New(%d) = %v, %d", n, x, e)
		}
	}
}

// P13.1: each place of a new one is empty: no way goes on there, and nothing is found, not even what has noughts alone.
func TestNewHasNothing(t *testing.T) {
	for n := api.MinPlaces; n <= 1024; n *= 2 {
		x := made(t, n)
		like(t, x, make(book, n))
		for hash := range uint64(2*n + 1) {
			misses(t, x, hash)
		}
		misses(t, x, highest)
	}
}

// P13.1: the chapter's examples.
func TestExamples(t *testing.T) {
	x := made(t, 8)
	puts(t, x, 9, 1, 1)
	puts(t, x, 17, 2, 2)
	drops(t, x, 1)
	finds(t, x, 17, 2, 2)
	puts(t, x, 25, 3, 1)
}

// P13.1: a way begins at the hash modulo how many places there are, whatever its upper bits are.
func TestPutBeginsAtTheHashModuloThePlaces(t *testing.T) {
	next := row(1)
	for n := api.MinPlaces; n <= api.MaxPlaces; n *= 2 {
		hashes := []uint64{0, 1, uint64(n) - 1, uint64(n), uint64(n) + 1, 1 << 31, 1 << 32, 1<<32 + 7, 1<<63 - 1, 1 << 63, 1<<63 + 5, highest, highest - 1, highest - uint64(n)}
		for range 20 {
			hashes = append(hashes, next())
		}
		for _, hash := range hashes {
			x := made(t, n)
			home := int(hash % uint64(n))
			puts(t, x, hash, 5, home)
			finds(t, x, hash, 5, home)
			misses(t, x, hash+1)
			misses(t, x, hash+uint64(n))
		}
	}
}

// P13.1: a way goes over the places one by one, round about, from each place on, also where the sums of hashes wrap round.
func TestPutGoesRoundAbout(t *testing.T) {
	for _, n := range []int{8, 16, 64} {
		for home := range uint64(n) {
			for _, hash := range []uint64{home, home + uint64(n), highest - uint64(n) + 1 + home} {
				x := made(t, n)
				for i := range n {
					puts(t, x, hash, uint32(i), (int(home)+i)%n)
				}
				counts(t, x, n, n, 0)
				for i := range n {
					finds(t, x, hash, uint32(i), (int(home)+i)%n)
				}
			}
		}
	}
}

// P13.1: an entry stands at the first place with none, though behind it stand some of its hash, and though places of others are between.
func TestPutTakesTheFirstPlaceWithoutAnEntry(t *testing.T) {
	x := made(t, 8)
	puts(t, x, 3, 0, 3)
	puts(t, x, 4, 1, 4)
	puts(t, x, 6, 2, 6)
	puts(t, x, 3, 3, 5)
	puts(t, x, 3, 4, 7)
	puts(t, x, 3, 5, 0)
	finds(t, x, 3, 5, 0)
	finds(t, x, 6, 2, 6)
}

// P13.1: what is put is not held against what is there: the same entry stands at a place of its own each time.
func TestPutOfTheSameEntryTwice(t *testing.T) {
	x := made(t, 8)
	for i := range 8 {
		puts(t, x, 2, 7, (2+i)%8)
	}
	counts(t, x, 8, 8, 0)
	finds(t, x, 2, 7, 2)
	drops(t, x, 2)
	finds(t, x, 2, 7, 3)
}

// P13.1: an entry takes a mark's place, if it comes first on the way, ahead of other marks and of empty places, and the mark is gone then.
func TestPutTakesMarks(t *testing.T) {
	x := made(t, 8)
	for i := range 5 {
		puts(t, x, 1, uint32(i), 1+i)
	}
	drops(t, x, 2, 4)
	counts(t, x, 8, 3, 2)
	puts(t, x, 12, 20, 4)
	counts(t, x, 8, 4, 1)
	puts(t, x, 1, 21, 2)
	counts(t, x, 8, 5, 0)
	puts(t, x, 1, 22, 6)
	finds(t, x, 1, 21, 2)
	finds(t, x, 12, 20, 4)
	finds(t, x, 1, 22, 6)
}

// P13.1: an empty place ahead of a mark on the way is taken first.
func TestPutTakesAnEmptyPlaceAheadOfAMark(t *testing.T) {
	x := made(t, 8)
	puts(t, x, 5, 1, 5)
	drops(t, x, 5)
	puts(t, x, 4, 2, 4)
	counts(t, x, 8, 1, 1)
	puts(t, x, 3, 3, 3)
	puts(t, x, 2, 4, 2)
	counts(t, x, 8, 3, 1)
	puts(t, x, 2, 5, 5)
	counts(t, x, 8, 4, 0)
}

// P13.1: if each place has an entry, no other one is put, and nothing changes; a mark is enough that one more is put.
func TestPutIntoAFullTable(t *testing.T) {
	for _, n := range []int{8, 16, 256} {
		x, b := made(t, n), make(book, n)
		for i := range n {
			e := api.Entry{Hash: uint64(i) * 7, What: uint32(i)}
			x.Put(e)
			b.put(e)
		}
		for hash := range uint64(2 * n) {
			if at, e := x.Put(api.Entry{Hash: hash, What: 9999}); at != 0 || e != api.ErrFull {
				t.Fatalf("Put(%d) into a full one = %d, %d", hash, at, e)
			}
		}
		like(t, x, b)
		for at := range n {
			drops(t, x, at)
			counts(t, x, n, n-1, 1)
			puts(t, x, uint64(at)+1, uint32(at), at)
			counts(t, x, n, n, 0)
		}
	}
}

// P13.1: the greatest table takes as many entries as it has places, and each of them is found.
func TestTheGreatestTable(t *testing.T) {
	const n = api.MaxPlaces
	x := made(t, n)
	for i := range n {
		hash := uint64(i)<<40 | uint64(i)*5&(n-1)
		puts(t, x, hash, uint32(i), i*5&(n-1))
	}
	counts(t, x, n, n, 0)
	if at, e := x.Put(api.Entry{Hash: 3, What: 3}); at != 0 || e != api.ErrFull {
		t.Fatalf("Put into a full one = %d, %d", at, e)
	}
	for i := range n {
		finds(t, x, uint64(i)<<40|uint64(i)*5&(n-1), uint32(i), i*5&(n-1))
	}
	misses(t, x, 1<<63)
	drops(t, x, n-1)
	puts(t, x, 0, 1, n-1)
}

// P13.1: entries are found by their hash alone, all bits of it, not by where they stand.
func TestFindAsksByTheWholeHash(t *testing.T) {
	const hash = 0x123456789abcdef5
	x := made(t, 8)
	puts(t, x, hash, 1, 5)
	for bit := range 64 {
		misses(t, x, hash^1<<bit)
		if whats := asks(t, x, hash^1<<bit); whats != nil {
			t.Fatalf("asked %v of another hash", whats)
		}
	}
	finds(t, x, hash, 1, 5)
}

// P13.1: is is asked of the entries with this hash alone, by the order of the way, up to the first true, and its place is told.
func TestFindAsksInOrder(t *testing.T) {
	x := made(t, 16)
	for i := range 12 {
		puts(t, x, []uint64{14, 30}[i%2], uint32(100+i), (14+i)%16)
	}
	if got, want := asks(t, x, 14), []uint32{100, 102, 104, 106, 108, 110}; !slices.Equal(got, want) {
		t.Fatalf("asked %v, want %v", got, want)
	}
	if got, want := asks(t, x, 30), []uint32{101, 103, 105, 107, 109, 111}; !slices.Equal(got, want) {
		t.Fatalf("asked %v, want %v", got, want)
	}
	for i := range 6 {
		var whats []uint32
		at, ok := x.Find(30, func(what uint32) bool {
			whats = append(whats, what)
			return len(whats) > i
		})
		if want := (15 + 2*i) % 16; at != want || !ok || len(whats) != i+1 || whats[i] != uint32(101+2*i) {
			t.Fatalf("Find that says true at the asking %d = %d, %v, asked %v", i, at, ok, whats)
		}
	}
	at, ok := x.Find(14, func(what uint32) bool { return what >= 106 })
	if at != 4 || !ok {
		t.Fatalf("Find of some = %d, %v", at, ok)
	}
}

// P13.1: of all numbers that an entry may be of, the same one is asked for.
func TestFindAsksForTheWholeNumber(t *testing.T) {
	x := made(t, 64)
	whats := []uint32{0, math.MaxUint32, 1 << 31, 1<<31 - 1}
	for bit := range 32 {
		whats = append(whats, 1<<bit)
	}
	for i, what := range whats {
		puts(t, x, 40, what, (40+i)%64)
	}
	if got := asks(t, x, 40); !slices.Equal(got, whats) {
		t.Fatalf("asked %v, want %v", got, whats)
	}
}

// P13.1: a mark ends no way, however many there are, and is asked for nothing.
func TestFindGoesOverMarks(t *testing.T) {
	for _, n := range []int{8, 32} {
		for home := range n {
			x := made(t, n)
			for i := range n {
				puts(t, x, uint64(home), uint32(i), (home+i)%n)
			}
			for i := range n - 1 {
				drops(t, x, (home+i)%n)
				if got := asks(t, x, uint64(home)); len(got) != n-1-i || got[0] != uint32(i+1) {
					t.Fatalf("asked %v", got)
				}
				finds(t, x, uint64(home), uint32(n-1), (home+n-1)%n)
			}
			drops(t, x, (home+n-1)%n)
			counts(t, x, n, 0, n)
			misses(t, x, uint64(home))
		}
	}
}

// P13.1: a dropped entry is not found, one of noughts neither, while another one like it is.
func TestFindDoesNotTellWhatWasDropped(t *testing.T) {
	x := made(t, 8)
	puts(t, x, 0, 0, 0)
	puts(t, x, 0, 0, 1)
	drops(t, x, 0)
	finds(t, x, 0, 0, 1)
	drops(t, x, 1)
	misses(t, x, 0)
	puts(t, x, 0, 0, 0)
	finds(t, x, 0, 0, 0)
}

// P13.1: a way in a table without an empty place ends when it has gone round: each entry is asked for once.
func TestFindEndsWhereNoPlaceIsEmpty(t *testing.T) {
	x := made(t, 8)
	for i := range 8 {
		puts(t, x, 6, uint32(i), (6+i)%8)
	}
	if got := asks(t, x, 6); len(got) != 8 {
		t.Fatalf("asked %v", got)
	}
	misses(t, x, 14)
	drops(t, x, 0, 3, 7)
	if got, want := asks(t, x, 6), []uint32{0, 3, 4, 6, 7}; !slices.Equal(got, want) {
		t.Fatalf("asked %v, want %v", got, want)
	}
	misses(t, x, 14)
}

// P13.1: a function that is not there says false.
func TestFindWithoutAFunction(t *testing.T) {
	x := made(t, 8)
	puts(t, x, 1, 0, 1)
	puts(t, x, 1, 0, 2)
	if at, ok := x.Find(1, nil); at != 0 || ok {
		t.Fatalf("Find without a function = %d, %v", at, ok)
	}
	if at, ok := x.Find(2, nil); at != 0 || ok {
		t.Fatalf("Find of nothing without a function = %d, %v", at, ok)
	}
	x.All()(nil)
}

// P1: Find does not panic, though what it is handed does, and the table is as it was.
func TestFindOfAFunctionThatPanics(t *testing.T) {
	x := made(t, 8)
	puts(t, x, 1, 3, 1)
	if at, ok := x.Find(1, func(uint32) bool { panic("is") }); at != 0 || ok {
		t.Fatalf("Find = %d, %v", at, ok)
	}
	finds(t, x, 1, 3, 1)
	counts(t, x, 8, 1, 0)
}

// P1: Find and All end, though the table is changed by what they are handed.
func TestChangesWithin(t *testing.T) {
	x := made(t, 8)
	puts(t, x, 1, 0, 1)
	at, ok := x.Find(1, func(what uint32) bool {
		x.Put(api.Entry{Hash: 1, What: what + 1})
		return false
	})
	if at != 0 || ok {
		t.Fatalf("Find = %d, %v", at, ok)
	}
	x.Find(1, func(uint32) bool {
		for at := range 8 {
			x.Drop(at)
		}
		return false
	})
	counts(t, x, 8, 0, x.Marks())
	puts(t, x, 5, 0, 5)
	x.Find(5, func(uint32) bool {
		*x = table.Table{}
		return false
	})
	x = made(t, 8)
	puts(t, x, 0, 0, 0)
	for range x.All() {
		*x = table.Table{}
	}
}

// P13.2: Get tells an entry just as it was put, of each place; of a place without one, and of none, nothing.
func TestGet(t *testing.T) {
	x := made(t, 16)
	next := row(2)
	for at := range 16 {
		e := api.Entry{Hash: next()&^15 | uint64(at), What: uint32(next())}
		if got, ok := x.Get(at); got != (api.Entry{}) || ok {
			t.Fatalf("Get(%d) of an empty place = %v, %v", at, got, ok)
		}
		x.Put(e)
		if got, ok := x.Get(at); got != e || !ok {
			t.Fatalf("Get(%d) = %v, %v; want %v", at, got, ok, e)
		}
	}
	for at := range 16 {
		drops(t, x, at)
		if got, ok := x.Get(at); got != (api.Entry{}) || ok {
			t.Fatalf("Get(%d) of a mark = %v, %v", at, got, ok)
		}
	}
	for _, at := range append([]int{16, 17}, wrong...) {
		if got, ok := x.Get(at); got != (api.Entry{}) || ok {
			t.Fatalf("Get(%d) = %v, %v", at, got, ok)
		}
	}
}

// P13.2: Drop of a place that there is not is ErrArg, of one without an entry, empty or a mark, ErrNone, and nothing changes.
func TestDropOfNothing(t *testing.T) {
	for _, n := range []int{8, 64} {
		x, b := made(t, n), make(book, n)
		for i := range n / 2 {
			puts(t, x, uint64(2*i), uint32(i), 2*i)
			b.put(api.Entry{Hash: uint64(2 * i), What: uint32(i)})
		}
		drops(t, x, 4)
		b.drop(4)
		for _, at := range append([]int{n, n + 1, 2 * n}, wrong...) {
			if e := x.Drop(at); e != api.ErrArg {
				t.Fatalf("Drop(%d) = %d", at, e)
			}
		}
		for at := 1; at < n; at += 2 {
			if e := x.Drop(at); e != api.ErrNone {
				t.Fatalf("Drop(%d) of an empty place = %d", at, e)
			}
		}
		if e := x.Drop(4); e != api.ErrNone {
			t.Fatalf("Drop(4) of a mark = %d", e)
		}
		like(t, x, b)
	}
}

// P13.2: a dropped entry leaves a mark, also where behind it is an empty place, and no other entry is moved.
func TestDropLeavesAMark(t *testing.T) {
	x, b := made(t, 8), make(book, 8)
	for i := range 4 {
		puts(t, x, 6, uint32(i), (6+i)%8)
		b.put(api.Entry{Hash: 6, What: uint32(i)})
	}
	for i, at := range []int{1, 6, 0, 7} {
		drops(t, x, at)
		b.drop(at)
		like(t, x, b)
		counts(t, x, 8, 3-i, i+1)
	}
}

// P13.2: All tells the places with entries, rising, also where entries went round about, and over marks.
func TestAllRises(t *testing.T) {
	x := made(t, 16)
	for i := range 9 {
		puts(t, x, 11, uint32(i), (11+i)%16)
	}
	if got, want := told(t, x), []int{0, 1, 2, 3, 11, 12, 13, 14, 15}; !slices.Equal(got, want) {
		t.Fatalf("All tells %v, want %v", got, want)
	}
	drops(t, x, 0, 3, 12, 15)
	if got, want := told(t, x), []int{1, 2, 11, 13, 14}; !slices.Equal(got, want) {
		t.Fatalf("All tells %v, want %v", got, want)
	}
}

// P13.2: All tells as far as it is asked for, may be left at any time, and tells anew, by the table as it is then.
func TestAllIsLeftAndBegunAnew(t *testing.T) {
	x := made(t, 8)
	all := x.All()
	for range all {
		t.Fatal("All of an empty one tells something")
	}
	for i := range 6 {
		puts(t, x, uint64(i), uint32(i), i)
	}
	for most := 1; most <= 6; most++ {
		n := 0
		for at, e := range all {
			if at != n || e.What != uint32(n) {
				t.Fatalf("All tells %v at %d, want %d", e, at, n)
			}
			n++
			if n == most {
				break
			}
		}
		if n != most {
			t.Fatalf("All told %d of %d", n, most)
		}
	}
	pairs := 0
	for range all {
		for range all {
			pairs++
		}
	}
	if pairs != 36 {
		t.Fatalf("%d pairs", pairs)
	}
	calls := 0
	all(func(int, api.Entry) bool {
		calls++
		return calls < 3
	})
	if calls != 3 {
		t.Fatalf("told %d times behind a false", calls)
	}
}

// P13.2: a place that All told may be dropped at once: all entries are told, and all are gone then.
func TestAllWhileDropping(t *testing.T) {
	x := made(t, 32)
	for i := range 20 {
		puts(t, x, 25, uint32(i), (25+i)%32)
	}
	n := 0
	for at := range x.All() {
		drops(t, x, at)
		n++
	}
	if n != 20 {
		t.Fatalf("told %d", n)
	}
	counts(t, x, 32, 0, 20)
}

// P13.2: a copy is just like it, marks too, and each of both goes its own way.
func TestCopyGoesItsOwnWay(t *testing.T) {
	x, b := made(t, 8), make(book, 8)
	for i := range 6 {
		puts(t, x, 5, uint32(i), (5+i)%8)
		b.put(api.Entry{Hash: 5, What: uint32(i)})
	}
	drops(t, x, 6, 0)
	b.drop(6)
	b.drop(0)
	y := x.Copy()
	if y == nil || y == x {
		t.Fatal("Copy is none")
	}
	like(t, y, b)
	finds(t, y, 5, 5, 2)
	c := slices.Clone(b)
	drops(t, x, 5, 7)
	b.drop(5)
	b.drop(7)
	puts(t, x, 9, 9, 3)
	b.put(api.Entry{Hash: 9, What: 9})
	like(t, x, b)
	like(t, y, c)
	puts(t, y, 6, 30, 6)
	c.put(api.Entry{Hash: 6, What: 30})
	drops(t, y, 2)
	c.drop(2)
	like(t, x, b)
	like(t, y, c)
}

// P13.1, P13.2, P1: one that is not there, or was not made, tells ErrNil, or nothing, whatever it is asked.
func TestWhatIsNotThere(t *testing.T) {
	for _, x := range []*table.Table{nil, {}} {
		for _, hash := range []uint64{0, 1, highest} {
			if at, e := x.Put(api.Entry{Hash: hash, What: 1}); at != 0 || e != api.ErrNil {
				t.Fatalf("Put = %d, %d", at, e)
			}
			misses(t, x, hash)
			if at, ok := x.Find(hash, nil); at != 0 || ok {
				t.Fatalf("Find = %d, %v", at, ok)
			}
		}
		for _, at := range append([]int{0, 1, 7}, wrong...) {
			if e := x.Drop(at); e != api.ErrNil {
				t.Fatalf("Drop(%d) = %d", at, e)
			}
			if e, ok := x.Get(at); e != (api.Entry{}) || ok {
				t.Fatalf("Get(%d) = %v, %v", at, e, ok)
			}
		}
		all := x.All()
		if all == nil {
			t.Fatal("All is not there")
		}
		for range all {
			t.Fatal("All tells something")
		}
		all(nil)
		counts(t, x, 0, 0, 0)
		if y := x.Copy(); y != nil {
			t.Fatalf("Copy = %v", y)
		}
	}
}

// walk does a step that a number tells with a table and its book, and holds both against one another.
func walk(t *testing.T, x *table.Table, b book, n uint64) {
	t.Helper()
	hash := n>>8%uint64(3*len(b)) - uint64(len(b))
	at := int(n>>40%uint64(len(b)+2)) - 1
	switch n % 8 {
	case 0, 1, 2:
		e := api.Entry{Hash: hash, What: uint32(n >> 33)}
		want, wantErr := b.put(e)
		if got, err := x.Put(e); got != want || err != wantErr {
			t.Fatalf("Put(%v) = %d, %d; want %d, %d", e, got, err, want, wantErr)
		}
	case 3, 4:
		want := b.drop(at)
		if err := x.Drop(at); err != want {
			t.Fatalf("Drop(%d) = %d, want %d", at, err, want)
		}
	default:
		whats, places := b.asked(hash)
		if got := asks(t, x, hash); !slices.Equal(got, whats) {
			t.Fatalf("Find(%d) asks %v, want %v", hash, got, whats)
		}
		if len(whats) > 0 {
			i := int(n >> 50 % uint64(len(whats)))
			finds(t, x, hash, whats[i], places[slices.Index(whats, whats[i])])
		}
	}
	counts(t, x, len(b), len(b.taken()), b.marks())
}

// P13.1, P13.2: long walks, whose tables fill up and are emptied, and their copies, tell what the chapter's words tell.
func TestWalks(t *testing.T) {
	for _, places := range []int{8, 16, 64, 256} {
		for seed := range uint64(8) {
			next := row(seed<<8 | uint64(places))
			x, b := made(t, places), make(book, places)
			var old *table.Table
			var oldBook book
			for i := range 3000 {
				walk(t, x, b, next())
				if i%50 == 0 {
					like(t, x, b)
				}
				if i%300 == 299 {
					if old != nil {
						like(t, old, oldBook)
					}
					old, oldBook = x, slices.Clone(b)
					x = x.Copy()
				}
			}
			like(t, x, b)
		}
	}
}
