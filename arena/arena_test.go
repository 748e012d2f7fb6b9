package arena

import (
	"math"
	"slices"
	"testing"

	"weighbridge/api"
)

// book is an arena as the chapter's words have it: which taking each cell is of, the free ones by when they were freed, and the takings so far.
type book struct {
	serials []uint64
	freed   []int
	fresh   int
	taken   uint64
}

// take tells the handle that the next taking gives.
func (b *book) take() (api.Handle, api.Errno) {
	i := b.fresh
	switch n := len(b.freed); {
	case n > 0:
		i = b.freed[n-1]
		b.freed = b.freed[:n-1]
	case i == len(b.serials):
		return api.Handle{}, api.ErrFull
	default:
		b.fresh++
	}
	b.taken++
	b.serials[i] = b.taken
	return api.Handle{I: i, Serial: b.taken}, api.OK
}

// free tells what freeing of a handle is answered.
func (b *book) free(h api.Handle) api.Errno {
	if !slices.Contains(b.all(), h) {
		return api.ErrStale
	}
	b.serials[h.I] = 0
	b.freed = append(b.freed, h.I)
	return api.OK
}

// all tells the live handles.
func (b *book) all() []api.Handle {
	var all []api.Handle
	for i, serial := range b.serials {
		if serial != 0 {
			all = append(all, api.Handle{I: i, Serial: serial})
		}
	}
	return all
}

// copy tells another book just like it.
func (b *book) copy() *book {
	return &book{slices.Clone(b.serials), slices.Clone(b.freed), b.fresh, b.taken}
}

// made tells an arena of n cells, none of them taken.
func made(t *testing.T, n int) *Arena {
	t.Helper()
	a, e := New(n)
	if e != api.OK || a == nil {
		t.Fatalf("New(%d) = %v, %d", n, a, e)
	}
	return a
}

// takes asks a taking to give that handle.
func takes(t *testing.T, a *Arena, i int, serial uint64) api.Handle {
	t.Helper()
	want := api.Handle{I: i, Serial: serial}
	h, e := a.Take()
	if h != want || e != api.OK {
		t.Fatalf("Take = %v, %d, want %v", h, e, want)
	}
	return h
}

// frees asks a handle to be freed.
func frees(t *testing.T, a *Arena, h api.Handle) {
	t.Helper()
	if e := a.Free(h); e != api.OK {
		t.Fatalf("Free(%v) = %d", h, e)
	}
}

// holds asks an arena to have just those live handles.
func holds(t *testing.T, a *Arena, size int, want []api.Handle) {
	t.Helper()
	if got := slices.Collect(a.All()); !slices.Equal(got, want) {
		t.Fatalf("All = %v, want %v", got, want)
	}
	if a.Len() != len(want) || a.Size() != size {
		t.Fatalf("Len, Size = %d, %d, want %d, %d", a.Len(), a.Size(), len(want), size)
	}
	next := 0
	for i := -2; i < size+2; i++ {
		h, ok := a.At(i)
		switch {
		case next < len(want) && want[next].I == i:
			if !ok || h != want[next] || !a.Live(h) {
				t.Fatalf("At(%d) = %v, %v, want %v", i, h, ok, want[next])
			}
			next++
		case ok || h != (api.Handle{}):
			t.Fatalf("At(%d) = %v, %v of a cell that is not taken", i, h, ok)
		}
	}
}

// full takes all of n cells.
func full(t *testing.T, n int) (*Arena, []api.Handle) {
	t.Helper()
	a := made(t, n)
	var all []api.Handle
	for i := range n {
		all = append(all, takes(t, a, i, uint64(i+1)))
	}
	return a, all
}

// mixed tells the next of numbers that differ, the same ones each time.
func mixed(seed *uint32) int {
	*seed = *seed*1664525 + 1013904223
	return int(*seed >> 8)
}

// P9.1: each number of cells about the bounds.
func TestNew(t *testing.T) {
	for _, n := range []int{math.MinInt, -api.MaxCells, -1, 0, api.MaxCells + 1, 2 * api.MaxCells, math.MaxInt} {
		if a, e := New(n); a != nil || e != api.ErrArg {
			t.Errorf("New(%d) = %v, %d", n, a, e)
		}
	}
	for _, n := range []int{1, 2, 3, 255, 256, 257, api.MaxCells - 1, api.MaxCells} {
		holds(t, made(t, n), n, nil)
	}
}

// P9.1: the chapter's examples.
func TestExamples(t *testing.T) {
	a := made(t, 3)
	h := takes(t, a, 0, 1)
	takes(t, a, 1, 2)
	frees(t, a, h)
	takes(t, a, 0, 3)
	if e := a.Free(h); e != api.ErrStale {
		t.Errorf("Free of 0 1 = %d", e)
	}
	holds(t, a, 3, []api.Handle{{I: 0, Serial: 3}, {I: 1, Serial: 2}})
}

// P9.1: as many takings as there are cells, of the lowest ones first; one more changes nothing, and is none of the takings that count.
func TestFull(t *testing.T) {
	for _, n := range []int{1, 2, 3, 100, api.MaxCells} {
		a, all := full(t, n)
		for range 3 {
			if h, e := a.Take(); h != (api.Handle{}) || e != api.ErrFull {
				t.Fatalf("Take of %d = %v, %d", n, h, e)
			}
		}
		holds(t, a, n, all)
		frees(t, a, all[n/2])
		takes(t, a, n/2, uint64(n+1))
		if h, e := a.Take(); h != (api.Handle{}) || e != api.ErrFull {
			t.Fatalf("Take of %d = %v, %d", n, h, e)
		}
	}
}

// P9.1: the cell that was freed last is taken first, and such ones ahead of those that were never taken.
func TestWhichIsTaken(t *testing.T) {
	a := made(t, 6)
	var all []api.Handle
	for i := range 4 {
		all = append(all, takes(t, a, i, uint64(i+1)))
	}
	for _, i := range []int{2, 0, 3} {
		frees(t, a, all[i])
	}
	takes(t, a, 3, 5)
	again := takes(t, a, 0, 6)
	frees(t, a, all[1])
	frees(t, a, again)
	for k, i := range []int{0, 1, 2, 4, 5} {
		takes(t, a, i, uint64(7+k))
	}
	if _, e := a.Take(); e != api.ErrFull {
		t.Fatalf("Take = %d", e)
	}
}

// P9.1: each order in which four cells are freed is told backwards.
func TestOrders(t *testing.T) {
	for order := range 256 {
		freed := []int{order & 3, order >> 2 & 3, order >> 4 & 3, order >> 6}
		if sorted := slices.Sorted(slices.Values(freed)); !slices.Equal(sorted, []int{0, 1, 2, 3}) {
			continue
		}
		a, all := full(t, 4)
		for _, i := range freed {
			frees(t, a, all[i])
		}
		holds(t, a, 4, nil)
		for k := range 4 {
			takes(t, a, freed[3-k], uint64(5+k))
		}
	}
}

// P9.1: a handle is live till it is freed, and never again, whoever has its cell then.
func TestLive(t *testing.T) {
	a := made(t, 2)
	old := []api.Handle{}
	for k := range 50 {
		h := takes(t, a, 0, uint64(k+1))
		if !a.Live(h) {
			t.Fatalf("%v is not live", h)
		}
		for _, o := range old {
			if a.Live(o) || a.Free(o) != api.ErrStale || !a.Live(h) {
				t.Fatalf("%v is live, or freed, behind its end", o)
			}
		}
		frees(t, a, h)
		if e := a.Free(h); a.Live(h) || e != api.ErrStale {
			t.Fatalf("%v is live, or freed, at its end", h)
		}
		old = append(old, h)
	}
}

// P9.1: handles that were never told are stale, and freeing them changes nothing.
func TestWrongHandles(t *testing.T) {
	a, all := full(t, 3)
	frees(t, a, all[1])
	left := []api.Handle{all[0], all[2]}
	for _, i := range []int{math.MinInt, -api.MaxCells, -3, -1, 0, 1, 2, 3, 4, api.MaxCells, math.MaxInt32 + 1, math.MaxInt} {
		for _, serial := range []uint64{0, 1, 2, 3, 4, 1 << 32, 1<<32 + 1, 1<<32 + 3, math.MaxUint64} {
			h := api.Handle{I: i, Serial: serial}
			if slices.Contains(left, h) {
				continue
			}
			if e := a.Free(h); a.Live(h) || e != api.ErrStale {
				t.Errorf("%v is live, or Free = %d", h, e)
			}
		}
		if h, ok := a.At(i); i != 0 && i != 2 && (ok || h != (api.Handle{})) {
			t.Errorf("At(%d) = %v, %v", i, h, ok)
		}
	}
	holds(t, a, 3, left)
	takes(t, a, 1, 4)
}

// P9.2: rising indices, in whatever order they were taken; none of a cell that is free.
func TestAll(t *testing.T) {
	a := made(t, 70)
	for range a.All() {
		t.Fatal("a handle of an arena without any")
	}
	for range 65 {
		a.Take()
	}
	for i := 64; i >= 0; i -= 3 {
		h, _ := a.At(i)
		frees(t, a, h)
	}
	for range 7 {
		a.Take()
	}
	var want []api.Handle
	for i := range 65 {
		switch h := (api.Handle{I: i, Serial: uint64(i + 1)}); {
		case i%3 != 1:
			want = append(want, h)
		case i < 20:
			want = append(want, api.Handle{I: i, Serial: uint64(66 + (i-1)/3)})
		}
	}
	holds(t, a, 70, want)
}

// P9.2: as far as they are asked for, and from the first one on each time.
func TestAllLeft(t *testing.T) {
	a, all := full(t, 9)
	frees(t, a, all[4])
	all = slices.Delete(all, 4, 5)
	handles := a.All()
	for n := 1; n <= len(all); n++ {
		var got []api.Handle
		for h := range handles {
			if got = append(got, h); len(got) == n {
				break
			}
		}
		if !slices.Equal(got, all[:n]) {
			t.Errorf("%d of All = %v", n, got)
		}
		asked := 0
		handles(func(api.Handle) bool { asked++; return asked < n })
		if asked != n {
			t.Errorf("%d were told, %d were asked for", asked, n)
		}
	}
	for h := range handles {
		for x := range handles {
			if x == h {
				break
			}
			if x.I >= h.I {
				t.Fatalf("%v within %v", x, h)
			}
		}
	}
}

// P9.2: a function that was told ahead of a change tells what is live behind it.
func TestAllThen(t *testing.T) {
	a := made(t, 4)
	handles := a.All()
	if got := slices.Collect(handles); len(got) != 0 {
		t.Errorf("All = %v", got)
	}
	first, second := takes(t, a, 0, 1), takes(t, a, 1, 2)
	if got := slices.Collect(handles); !slices.Equal(got, []api.Handle{first, second}) {
		t.Errorf("All = %v", got)
	}
	frees(t, a, first)
	if got := slices.Collect(handles); !slices.Equal(got, []api.Handle{second}) {
		t.Errorf("All = %v", got)
	}
	third := takes(t, a, 0, 3)
	if got := slices.Collect(handles); !slices.Equal(got, []api.Handle{third, second}) {
		t.Errorf("All = %v", got)
	}
}

// P9.2: an arena that changes while it is gone over: each next one by the arena as it is then.
func TestAllMeanwhile(t *testing.T) {
	a, all := full(t, 4)
	var got []api.Handle
	for h := range a.All() {
		got = append(got, h)
		frees(t, a, h)
		if h.I == 1 {
			frees(t, a, all[2])
		}
	}
	if !slices.Equal(got, []api.Handle{all[0], all[1], all[3]}) || a.Len() != 0 {
		t.Errorf("All = %v, Len %d", got, a.Len())
	}
	a, got = made(t, 5), nil
	a.Take()
	for h := range a.All() {
		got = append(got, h)
		a.Take()
		if len(got) > 5 {
			t.Fatal("more handles than cells")
		}
	}
	holds(t, a, 5, got)
}

// P9.2: neither of two arenas hangs on what is done with the other one.
func TestCopy(t *testing.T) {
	a, all := full(t, 4)
	frees(t, a, all[3])
	frees(t, a, all[1])
	handles := a.All()
	b := a.Copy()
	if b == a {
		t.Fatal("Copy is the arena itself")
	}
	left := []api.Handle{all[0], all[2]}
	holds(t, b, 4, left)
	x := takes(t, b, 1, 5)
	y := takes(t, b, 3, 6)
	frees(t, b, all[0])
	holds(t, a, 4, left)
	holds(t, b, 4, []api.Handle{x, all[2], y})
	if a.Live(x) || a.Live(y) || !a.Live(all[0]) || b.Live(all[0]) {
		t.Error("a copy and its arena have handles in common")
	}
	frees(t, a, all[2])
	takes(t, a, 2, 5)
	takes(t, a, 1, 6)
	takes(t, a, 3, 7)
	if got := slices.Collect(handles); len(got) != 4 {
		t.Errorf("All = %v of the arena that was copied", got)
	}
	holds(t, b, 4, []api.Handle{x, all[2], y})
	takes(t, b, 0, 7)
}

// P9.2: a copy of one that has cells never taken takes them by their order.
func TestCopyFresh(t *testing.T) {
	a := made(t, 3)
	b := a.Copy()
	holds(t, b, 3, nil)
	takes(t, a, 0, 1)
	c := a.Copy()
	takes(t, b, 0, 1)
	takes(t, c, 1, 2)
	takes(t, c, 2, 3)
	if _, e := c.Take(); e != api.ErrFull {
		t.Errorf("Take = %d", e)
	}
	takes(t, a, 1, 2)
	holds(t, b, 3, []api.Handle{{I: 0, Serial: 1}})
}

// P9.1, P9.2 and P1: an arena that is not there, and one that was not made.
func TestNothing(t *testing.T) {
	var none *Arena
	for _, a := range []*Arena{none, {}} {
		if h, e := a.Take(); h != (api.Handle{}) || e != api.ErrNil {
			t.Errorf("Take = %v, %d", h, e)
		}
		for _, h := range []api.Handle{{}, {I: 0, Serial: 1}, {I: -1, Serial: 1}, {I: api.MaxCells, Serial: math.MaxUint64}} {
			if e := a.Free(h); e != api.ErrNil || a.Live(h) {
				t.Errorf("Free(%v) = %d, or it is live", h, e)
			}
			if x, ok := a.At(h.I); ok || x != (api.Handle{}) {
				t.Errorf("At(%d) = %v, %v", h.I, x, ok)
			}
		}
		handles := a.All()
		if handles == nil {
			t.Fatal("All is not there")
		}
		for range 2 {
			for h := range handles {
				t.Errorf("All tells %v", h)
			}
		}
		if a.Len() != 0 || a.Size() != 0 || a.Copy() != nil {
			t.Errorf("Len, Size, Copy = %d, %d, %v", a.Len(), a.Size(), a.Copy())
		}
	}
}

// P9.1 and P9.2: long walks of calls against the book, copies going on beside them; no two live handles have one index, and none is told twice.
func TestWalks(t *testing.T) {
	for seed := range uint32(40) {
		n := 1 + int(seed)%13
		a, b := made(t, n), &book{serials: make([]uint64, n)}
		told := []api.Handle{}
		for step := range 600 {
			switch k := mixed(&seed) % 20; {
			case k < 10-step/100:
				h, e := a.Take()
				if want, f := b.take(); h != want || e != f {
					t.Fatalf("Take = %v, %d, want %v, %d", h, e, want, f)
				}
				if e == api.OK && slices.Contains(told, h) {
					t.Fatalf("%v is told twice", h)
				}
				if e == api.OK {
					told = append(told, h)
				}
			case k < 19 && len(told) > 0:
				h := told[max(0, len(told)-1-mixed(&seed)%(2*n))]
				if e, want := a.Free(h), b.free(h); e != want {
					t.Fatalf("Free(%v) = %d, want %d", h, e, want)
				}
			default:
				left, size := b.all(), a.Size()
				other, beside := a.Copy(), b.copy()
				a.Take()
				for h := range a.All() {
					frees(t, a, h)
				}
				holds(t, a, size, nil)
				holds(t, other, size, left)
				a, b = other, beside
			}
			holds(t, a, n, b.all())
		}
	}
}
