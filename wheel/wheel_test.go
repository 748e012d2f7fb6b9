package wheel_test

import (
	"math"
	"slices"
	"testing"

	"weighbridge/api"
	"weighbridge/wheel"
)

// last is the last tick.
const last = math.MaxUint64

// starts is ticks about which bytes of a tick change, from the lowest to the highest one, and the first and the last ticks.
var starts = []uint64{0, 1, 100, 255, 256, 65530, 65536, 1<<24 - 3, 1<<24 + 77, 1<<32 - 3, 1 << 32, 1<<40 - 1, 1<<48 - 300, 1<<56 - 2, 1<<63 - 4, 0x80ffffff, last - 70000, last - 700}

// timer is a timer as the chapter's words have it.
type timer struct {
	h        api.Handle
	at, what uint64
}

// book is a wheel as the chapter's words have it: its timers by their turns, and how many cells were taken of all.
type book struct {
	size   int
	now    uint64
	timers []timer
	taken  uint64
}

// find tells which timer has a handle, or -1.
func (b *book) find(h api.Handle) int {
	return slices.IndexFunc(b.timers, func(x timer) bool { return x.h == h })
}

// due tells when a timer is due that is armed at a tick.
func (b *book) due(at uint64) (uint64, api.Errno) {
	switch {
	case b.now == last:
		return 0, api.ErrOver
	case at <= b.now:
		return b.now + 1, api.OK
	case at-b.now >= 1<<32:
		return 0, api.ErrOver
	}
	return at, api.OK
}

// tick tells what fires at the next tick.
func (b *book) tick() ([]api.Fired, api.Errno) {
	if b.now == last {
		return nil, api.ErrOver
	}
	b.now++
	var fired []api.Fired
	var left []timer
	for _, x := range b.timers {
		if x.at == b.now {
			fired = append(fired, api.Fired{H: x.h, What: x.what})
		} else {
			left = append(left, x)
		}
	}
	b.timers = left
	return fired, api.OK
}

// copy tells another book just like it.
func (b *book) copy() *book {
	other := *b
	other.timers = slices.Clone(b.timers)
	return &other
}

// both is a wheel and its book, to which the same is done.
type both struct {
	t *testing.T
	w *wheel.Wheel
	b *book
}

// made tells a wheel of so many cells, without timers, at a tick.
func made(t *testing.T, cells int, now uint64) both {
	t.Helper()
	w, e := wheel.New(cells)
	if e != api.OK || w == nil || w.Now() != 0 || w.Len() != 0 {
		t.Fatalf("New(%d) = %v, %d", cells, w, e)
	}
	if e := w.Skip(now); e != api.OK {
		t.Fatalf("Skip(%d) = %d", now, e)
	}
	return both{t, w, &book{size: cells, now: now}}
}

// agree asks the wheel to be as the book says.
func (x both) agree() {
	x.t.Helper()
	if x.w.Now() != x.b.now || x.w.Len() != len(x.b.timers) {
		x.t.Fatalf("Now, Len = %d, %d, want %d, %d", x.w.Now(), x.w.Len(), x.b.now, len(x.b.timers))
	}
	for _, y := range x.b.timers {
		if at, ok := x.w.Due(y.h); !ok || at != y.at {
			x.t.Fatalf("Due(%v) at %d = %d, %v, want %d", y.h, x.b.now, at, ok, y.at)
		}
	}
}

// arm arms a timer, or is refused, as the book says. Which cell is taken is asked as far as the chapters say it: one that is free, and which taking of all.
func (x both) arm(at, what uint64) api.Handle {
	x.t.Helper()
	h, e := x.w.Arm(at, what)
	due, want := x.b.due(at)
	if want == api.OK && len(x.b.timers) == x.b.size {
		want = api.ErrFull
	}
	if e != want {
		x.t.Fatalf("Arm(%d) at %d = %d, want %d", at, x.b.now, e, want)
	}
	if e != api.OK {
		if h != (api.Handle{}) {
			x.t.Fatalf("Arm(%d) at %d = %v, %d", at, x.b.now, h, e)
		}
		return h
	}
	x.b.taken++
	used := slices.ContainsFunc(x.b.timers, func(y timer) bool { return y.h.I == h.I })
	if h.I < 0 || h.I >= x.b.size || used || h.Serial != x.b.taken {
		x.t.Fatalf("Arm(%d) at %d = %v, the taking %d", at, x.b.now, h, x.b.taken)
	}
	x.b.timers = append(x.b.timers, timer{h, due, what})
	return h
}

// again arms a timer anew, or is refused, as the book says.
func (x both) again(h api.Handle, at uint64) api.Errno {
	x.t.Helper()
	e := x.w.Again(h, at)
	due, want := x.b.due(at)
	i := x.b.find(h)
	if i < 0 {
		want = api.ErrStale
	}
	if e != want {
		x.t.Fatalf("Again(%v, %d) at %d = %d, want %d", h, at, x.b.now, e, want)
	}
	if e == api.OK {
		y := x.b.timers[i]
		x.b.timers = append(slices.Delete(x.b.timers, i, i+1), timer{h, due, y.what})
	}
	return e
}

// cancel ends a timer, or is refused, as the book says.
func (x both) cancel(h api.Handle) api.Errno {
	x.t.Helper()
	e, want := x.w.Cancel(h), api.OK
	i := x.b.find(h)
	if i < 0 {
		want = api.ErrStale
	}
	if e != want {
		x.t.Fatalf("Cancel(%v) = %d, want %d", h, e, want)
	}
	if e == api.OK {
		x.b.timers = slices.Delete(x.b.timers, i, i+1)
	}
	if at, ok := x.w.Due(h); at != 0 || ok {
		x.t.Fatalf("Due(%v) = %d, %v behind its end", h, at, ok)
	}
	return e
}

// tick asks for n ticks, each of which tells just what the book says.
func (x both) tick(n int) []api.Fired {
	x.t.Helper()
	var all []api.Fired
	for range n {
		got, e := x.w.Tick()
		want, f := x.b.tick()
		if !slices.Equal(got, want) || e != f || x.w.Now() != x.b.now {
			x.t.Fatalf("Tick to %d = %v, %d, want %v, %d to %d", x.w.Now(), got, e, want, f, x.b.now)
		}
		for _, y := range got {
			if at, ok := x.w.Due(y.H); at != 0 || ok || x.w.Cancel(y.H) != api.ErrStale || x.w.Again(y.H, at) != api.ErrStale {
				x.t.Fatalf("%v is live behind its tick", y)
			}
		}
		all = append(all, got...)
	}
	x.agree()
	return all
}

// skip makes it another tick, or is refused, as the book says.
func (x both) skip(to uint64) api.Errno {
	x.t.Helper()
	e, want := x.w.Skip(to), api.OK
	switch {
	case len(x.b.timers) > 0:
		want = api.ErrState
	case to < x.b.now:
		want = api.ErrArg
	default:
		x.b.now = to
	}
	if e != want {
		x.t.Fatalf("Skip(%d) at %d = %d, want %d", to, x.b.now, e, want)
	}
	x.agree()
	return e
}

// copy tells copies of the wheel and of the book.
func (x both) copy() both {
	x.t.Helper()
	w := x.w.Copy()
	if w == nil || w == x.w {
		x.t.Fatalf("Copy = %p of %p", w, x.w)
	}
	other := both{x.t, w, x.b.copy()}
	other.agree()
	return other
}

// whats tells what fired ones are for.
func whats(fired []api.Fired) []uint64 {
	var all []uint64
	for _, x := range fired {
		all = append(all, x.What)
	}
	return all
}

// fires asks just those to have fired.
func fires(t *testing.T, fired []api.Fired, want ...uint64) {
	t.Helper()
	if got := whats(fired); !slices.Equal(got, want) {
		t.Fatalf("fired = %v, want %v", got, want)
	}
}

// mixed tells the next of numbers that differ, the same ones each time.
func mixed(seed *uint32) int {
	*seed = *seed*1664525 + 1013904223
	return int(*seed >> 8)
}

// P11.1: each number of cells about the bounds, and as many timers as there are cells.
func TestNew(t *testing.T) {
	for _, n := range []int{math.MinInt, math.MinInt32, -api.MaxCells, -1, 0, api.MaxCells + 1, 2 * api.MaxCells, 1 << 32, math.MaxInt} {
		if w, e := wheel.New(n); w != nil || e != api.ErrArg {
			t.Errorf("New(%d) = %v, %d", n, w, e)
		}
	}
	for _, n := range []int{1, 2, 255, 256, 257, 1024, 1025, api.MaxCells - 1, api.MaxCells} {
		w, e := wheel.New(n)
		if e != api.OK || w == nil || w.Now() != 0 || w.Len() != 0 {
			t.Fatalf("New(%d) = %v, %d", n, w, e)
		}
		for i := range n {
			if h, e := w.Arm(uint64(i), 0); e != api.OK || h != (api.Handle{I: i, Serial: uint64(i + 1)}) {
				t.Fatalf("Arm of %d = %v, %d", i, h, e)
			}
		}
		if h, e := w.Arm(5, 0); e != api.ErrFull || h != (api.Handle{}) || w.Len() != n {
			t.Errorf("Arm of %d = %v, %d, Len %d", n, h, e, w.Len())
		}
	}
}

// P11.1 and P11.2: the chapter's examples.
func TestExamples(t *testing.T) {
	x := made(t, 4, 0)
	x.arm(2, 7)
	x.arm(1, 8)
	fires(t, x.tick(1), 8)
	fires(t, x.tick(1), 7)
	y := made(t, 4, 0)
	y.arm(0, 7)
	fires(t, y.tick(1), 7)
}

// P11.1: at or below now a timer is due at the next tick, at each other one that may be just there.
func TestArm(t *testing.T) {
	for _, now := range starts {
		x := made(t, 64, now)
		for _, at := range []uint64{0, now / 2, now - min(now, 1), now, now + 1} {
			if h := x.arm(at, 7); !dueAt(x, h, now+1) {
				t.Errorf("a timer armed at %d, now %d, is not due at the next tick", at, now)
			}
		}
		for _, far := range []uint64{2, 255, 256, 257, 65535, 65536, 65537, 1<<24 - 1, 1 << 24, 1<<24 + 1, 1<<31 - 1, 1 << 31, 1<<32 - 2, 1<<32 - 1} {
			if far > last-now {
				continue
			}
			if h := x.arm(now+far, far); !dueAt(x, h, now+far) {
				t.Errorf("a timer armed at %d, now %d, is not due then", now+far, now)
			}
		}
		x.agree()
		fires(t, x.tick(1), 7, 7, 7, 7, 7)
	}
}

// dueAt tells whether a timer is due at a tick.
func dueAt(x both, h api.Handle, want uint64) bool {
	at, ok := x.w.Due(h)
	return ok && at == want
}

// P11.1: 2^32 ticks ahead is over, one less is not; at the last tick each one is. It goes ahead of ErrFull, and takes no cell.
func TestOver(t *testing.T) {
	for _, now := range starts {
		x := made(t, 1, now)
		for _, far := range []uint64{1 << 32, 1<<32 + 1, 1 << 33, 1 << 40, 1 << 63, last} {
			if far <= last-now {
				x.arm(now+far, 1)
			}
		}
		if last-now >= 1<<32 {
			x.arm(last, 1)
		}
		x.agree()
		h := x.arm(now+min(last-now, api.MaxAhead), 2)
		if h.Serial != 1 {
			t.Errorf("%v behind armings that were over", h)
		}
		if last-now >= 1<<32 {
			if _, e := x.w.Arm(now+1<<32, 3); e != api.ErrOver {
				t.Errorf("Arm = %d of a full wheel", e)
			}
		}
		x.arm(now+1, 4)
		x.agree()
	}
	x := made(t, 1, last)
	for _, at := range []uint64{0, 1, last - 1, last} {
		if _, e := x.w.Arm(at, 1); e != api.ErrOver {
			t.Errorf("Arm(%d) at the last tick = %d", at, e)
		}
	}
	x.agree()
}

// P11.1: what is full refuses, and changes nothing; a cell that is free again is taken again.
func TestFull(t *testing.T) {
	for _, n := range []int{1, 2, 7, 300} {
		x := made(t, n, 250)
		var all []api.Handle
		for i := range n {
			all = append(all, x.arm(251+uint64(i%5), uint64(i)))
		}
		for range 3 {
			if _, e := x.w.Arm(251, 99); e != api.ErrFull {
				t.Fatalf("Arm of %d = %d", n, e)
			}
		}
		x.agree()
		x.cancel(all[n/2])
		if h := x.arm(253, 1000); h != (api.Handle{I: n / 2, Serial: uint64(n + 1)}) {
			t.Errorf("Arm = %v", h)
		}
		x.arm(253, 1001)
		if fired := x.tick(6); len(fired) != n || x.w.Len() != 0 {
			t.Errorf("%d of %d fired, %d are left", len(fired), n, x.w.Len())
		}
		for i := range n {
			x.arm(0, uint64(i))
		}
		x.arm(0, 99)
		x.tick(1)
	}
}

// P11.1: armed anew a timer is due at the other tick alone, earlier or later, and keeps its handle and what it is for.
func TestAgain(t *testing.T) {
	fars := []uint64{0, 1, 2, 3, 250, 256, 257, 600, 65536, 66000}
	for _, now := range starts {
		for _, from := range fars {
			x := made(t, len(fars), now)
			var all []api.Handle
			for i := range fars {
				all = append(all, x.arm(now+min(from, last-now), uint64(i)))
			}
			for i, to := range fars {
				if e := x.again(all[i], now+min(to, last-now)); e != api.OK {
					t.Fatalf("Again = %d", e)
				}
				x.agree()
			}
			x.tick(700)
		}
	}
}

// P11.1: a timer that is armed anew once more and again never fires meanwhile, and then just once.
func TestAgainAndAgain(t *testing.T) {
	for _, now := range starts {
		if last-now < 1000 {
			continue
		}
		x := made(t, 2, now)
		h := x.arm(now+3, 5)
		for range 300 {
			if fired := x.tick(2); len(fired) > 0 {
				t.Fatalf("%v fired", fired)
			}
			x.again(h, x.b.now+3)
		}
		x.again(h, 0)
		fires(t, x.tick(1), 5)
		fires(t, x.tick(10))
	}
}

// P11.1: ErrStale goes ahead of ErrOver; what is refused is due as it was, by the turn that it had.
func TestAgainRefused(t *testing.T) {
	x := made(t, 3, 1000)
	a, b, c := x.arm(1005, 1), x.arm(1005, 2), x.arm(1006, 3)
	for _, at := range []uint64{1000 + 1<<32, 1001 + 1<<32, 1 << 63, last} {
		if e := x.again(a, at); e != api.ErrOver {
			t.Errorf("Again(%d) = %d", at, e)
		}
		x.agree()
	}
	x.cancel(c)
	for _, at := range []uint64{0, 1005, last} {
		if e := x.again(c, at); e != api.ErrStale {
			t.Errorf("Again(%d) = %d", at, e)
		}
	}
	x.again(b, 1000+api.MaxAhead)
	x.agree()
	x.again(b, 1005)
	fires(t, x.tick(6), 1, 2)
	if e := x.again(a, last); e != api.ErrStale {
		t.Errorf("Again = %d", e)
	}
}

// P11.1: a timer that was cancelled is not told; those beside it are, by their order.
func TestCancel(t *testing.T) {
	for _, now := range starts {
		for _, far := range []uint64{1, 5, 256, 300, 600} {
			for gone := range 5 {
				x := made(t, 5, now)
				var all []api.Handle
				for i := range 5 {
					all = append(all, x.arm(now+far, uint64(i)))
				}
				if e := x.cancel(all[gone]); e != api.OK {
					t.Fatalf("Cancel = %d", e)
				}
				if e := x.cancel(all[gone]); e != api.ErrStale {
					t.Fatalf("Cancel anew = %d", e)
				}
				x.agree()
				if fired := x.tick(int(far)); len(fired) != 4 {
					t.Fatalf("fired = %v", fired)
				}
			}
		}
	}
}

// P11.1: timers are cancelled at each tick of their way, whichever levels they came by.
func TestCancelOnTheWay(t *testing.T) {
	x := made(t, 600, 65000)
	var all []api.Handle
	for i := range 600 {
		all = append(all, x.arm(65601, uint64(i)))
	}
	for _, h := range all {
		fires(t, x.tick(1))
		x.cancel(h)
	}
	fires(t, x.tick(600))
}

// P11.1: handles that were never told, or whose timer is gone, are stale, and change nothing.
func TestWrongHandles(t *testing.T) {
	x := made(t, 3, 7)
	a, b, c := x.arm(20, 1), x.arm(21, 2), x.arm(8, 3)
	x.cancel(b)
	x.tick(1)
	for _, i := range []int{math.MinInt, math.MinInt32, -api.MaxCells, -2, -1, 0, 1, 2, 3, 4, api.MaxCells, 1 << 32, math.MaxInt} {
		for _, serial := range []uint64{0, 1, 2, 3, 4, 1 << 32, 1<<32 + 1, last} {
			h := api.Handle{I: i, Serial: serial}
			if h == a {
				continue
			}
			if x.again(h, 9) != api.ErrStale || x.cancel(h) != api.ErrStale {
				t.Errorf("%v is live", h)
			}
		}
	}
	x.agree()
	d := x.arm(20, 4)
	if d.I != c.I || x.cancel(c) != api.ErrStale {
		t.Errorf("Arm = %v behind %v", d, c)
	}
	fires(t, x.tick(20), 1, 4)
}

// P11.2: from each start timers fire just at their ticks: at each one near, and about those where bytes change.
func TestTick(t *testing.T) {
	for _, now := range starts {
		x := made(t, 1200, now)
		for far := range uint64(1100) {
			x.arm(now+min((far*7)%1100, last-now), far)
		}
		for _, far := range []uint64{65534, 65535, 65536, 65537, 65791, 65792, 65793, 66047, 66048, 66049, 69990} {
			x.arm(now+min(far, last-now), far)
		}
		x.tick(int(min(70010, last-now)))
		if n := x.w.Len(); n != 0 {
			t.Errorf("%d are left from %d on", n, now)
		}
	}
}

// P11.2: all bytes of a tick but the lowest three are crossed by timers near their bounds, one a tick.
func TestBounds(t *testing.T) {
	for byteAt := 1; byteAt < 8; byteAt++ {
		for _, times := range []uint64{1, 2, 127, 128, 254, 255} {
			edge := times << (8 * byteAt)
			for from := edge - 5; from < edge+2; from++ {
				x := made(t, 16, from)
				for far := range uint64(8) {
					x.arm(from+far, far)
					x.arm(from+far+256, far)
				}
				x.tick(270)
				if n := x.w.Len(); n != 0 {
					t.Fatalf("%d are left from %d on", n, from)
				}
			}
		}
	}
}

// P11.2: timers for one tick that were armed at ticks far from it and near it fire by their turns, those that were armed anew behind them.
func TestTurns(t *testing.T) {
	for _, end := range []uint64{66000, 131072, 131072 + 256, 1 << 24, 1<<24 + 65536 + 256 + 1, 1 << 32, 1<<40 + 3, last} {
		x := made(t, 64, end-66000)
		first, second := x.arm(end, 100), x.arm(end, 101)
		want := []uint64{101}
		for i, left := range []uint64{65999, 65537, 65536, 65535, 1000, 512, 257, 256, 255, 100, 2, 1} {
			for x.b.now < end-left {
				if fired, e := x.w.Tick(); len(fired) > 0 || e != api.OK {
					t.Fatalf("Tick = %v, %d", fired, e)
				}
				x.b.now++
			}
			x.arm(end, uint64(i))
			want = append(want, uint64(i))
			if left == 256 {
				x.again(first, end)
				want = append(want, 100)
			}
		}
		x.agree()
		fires(t, x.tick(1), want...)
		if at, ok := x.w.Due(second); ok {
			t.Errorf("Due = %d", at)
		}
	}
}

// P11.2: as many timers as there may be, all for one tick, fire by their turns.
func TestMany(t *testing.T) {
	for _, far := range []uint64{1, 300, 65537} {
		w, _ := wheel.New(api.MaxCells)
		for i := range uint64(api.MaxCells) {
			w.Arm(far, i)
		}
		for i := range api.MaxCells {
			if i%3 == 0 {
				w.Again(api.Handle{I: i, Serial: uint64(i + 1)}, far)
			}
		}
		for range far - 1 {
			if fired, e := w.Tick(); len(fired) > 0 || e != api.OK {
				t.Fatalf("Tick = %d of them, %d", len(fired), e)
			}
		}
		fired, e := w.Tick()
		if len(fired) != api.MaxCells || e != api.OK || w.Len() != 0 {
			t.Fatalf("Tick = %d of them, %d", len(fired), e)
		}
		var want []uint64
		for i := range uint64(api.MaxCells) {
			if i%3 != 0 {
				want = append(want, i)
			}
		}
		for i := uint64(0); i < api.MaxCells; i += 3 {
			want = append(want, i)
		}
		if got := whats(fired); !slices.Equal(got, want) {
			t.Errorf("the %d that are due at %d do not fire by their turns", len(got), far)
		}
	}
}

// P11.2: timers 2^24 ticks ahead and more fire just at their ticks, and none of those still further away does meanwhile.
func TestFar(t *testing.T) {
	for _, now := range []uint64{0, 0x80ffffff, 1<<32 - 65541, 1<<48 - 1<<24 - 7, last - 1<<24 - 1<<17} {
		w, _ := wheel.New(64)
		w.Skip(now)
		want, left := map[uint64][]uint64{}, 0
		for i, far := range []uint64{1 << 24, 1<<24 - 1, 1<<24 + 1, 1<<24 + 65536, 65541, 1<<24 + 65542, 1<<24 + 65536 + 257, 1 << 23, 1<<24 + 1<<17 - 1, 1 << 25, 1 << 31, 0xff000001, 0xff000002, 0xff010001, 1<<32 - 1<<16, 1<<32 - 256, 1<<32 - 1} {
			if far > last-now {
				continue
			}
			if _, e := w.Arm(now+far, uint64(i)); e != api.OK {
				t.Fatalf("Arm = %d", e)
			}
			want[far] = append(want[far], uint64(i))
			left++
		}
		for n := range uint64(1<<24 + 1<<17) {
			fired, e := w.Tick()
			if e != api.OK {
				t.Fatalf("Tick = %d", e)
			}
			if len(fired) == 0 {
				continue
			}
			fires(t, fired, want[n+1]...)
			left -= len(fired)
			delete(want, n+1)
		}
		for far := range want {
			if far <= 1<<24+1<<17 {
				t.Errorf("%d ticks from %d on is late", far, now)
			}
		}
		if w.Len() != left || w.Now() != now+1<<24+1<<17 {
			t.Errorf("Len, Now = %d, %d", w.Len(), w.Now())
		}
	}
}

// P11.2: timers that are due at the last tick fire then; behind it there is no tick, and nothing changes.
func TestLast(t *testing.T) {
	for _, far := range []uint64{1, 2, 255, 256, 257, 66000} {
		x := made(t, 8, last-far)
		h := x.arm(last, 1)
		x.arm(last-far, 2)
		x.arm(last, 3)
		if fired := x.tick(int(far)); len(fired) != 3 {
			t.Fatalf("fired = %v", fired)
		}
		for range 3 {
			if fired, e := x.w.Tick(); len(fired) != 0 || e != api.ErrOver || x.w.Now() != last {
				t.Errorf("Tick = %v, %d, Now %d", fired, e, x.w.Now())
			}
		}
		if x.again(h, last) != api.ErrStale || x.cancel(h) != api.ErrStale {
			t.Errorf("%v is live", h)
		}
		x.arm(last, 1)
		x.agree()
	}
}

// P11.2: ErrState goes ahead of ErrArg; now may be skipped to as well as the last tick; what is armed then is due by the new now.
func TestSkip(t *testing.T) {
	x := made(t, 2, 0)
	for _, to := range []uint64{0, 0, 5, 5, 256, 1 << 32, 1<<63 + 9} {
		if e := x.skip(to); e != api.OK {
			t.Errorf("Skip(%d) = %d", to, e)
		}
	}
	now := x.b.now
	for _, to := range []uint64{0, 1, 1 << 63, now - 1} {
		if e := x.skip(to); e != api.ErrArg {
			t.Errorf("Skip(%d) = %d", to, e)
		}
	}
	h := x.arm(now+2, 1)
	for _, to := range []uint64{0, now - 1, now, now + 1, now + 2, last} {
		if e := x.skip(to); e != api.ErrState {
			t.Errorf("Skip(%d) = %d", to, e)
		}
	}
	x.cancel(h)
	x.skip(now + 10)
	x.arm(now+2, 2)
	x.arm(now+12, 3)
	fires(t, x.tick(1), 2)
	fires(t, x.tick(1), 3)
	x.skip(last - 2)
	x.arm(last, 4)
	fires(t, x.tick(2), 4)
	x.skip(last)
	x.skip(last - 1)
}

// P11.2: neither of two wheels hangs on what is done with the other one.
func TestCopy(t *testing.T) {
	for _, now := range starts {
		if last-now < 70000 {
			continue
		}
		x := made(t, 9, now)
		var all []api.Handle
		for i, far := range []uint64{1, 3, 3, 256, 300, 65536, 66000} {
			all = append(all, x.arm(now+far, uint64(i)))
		}
		y := x.copy()
		x.cancel(all[1])
		x.again(all[3], now+2)
		y.again(all[1], now+3)
		y.arm(now+3, 50)
		x.arm(now+3, 60)
		x.agree()
		y.agree()
		z := y.copy()
		fires(t, x.tick(4), 0, 3, 2, 60)
		fires(t, y.tick(3), 0, 2, 1, 50)
		z.cancel(all[6])
		z.tick(66001)
		x.tick(66001)
		y.tick(66001)
	}
}

// P11.2: a copy of a wheel without timers is at the same tick, and arms by the same handles.
func TestCopyEmpty(t *testing.T) {
	x := made(t, 2, 77)
	x.arm(78, 1)
	x.tick(1)
	y := x.copy()
	if a, b := x.arm(0, 1), y.arm(0, 1); a != b {
		t.Errorf("Arm = %v, and of the copy %v", a, b)
	}
	y.arm(0, 2)
	y.arm(0, 3)
	x.tick(1)
	y.tick(1)
	y.skip(100)
	x.agree()
}

// P11.2: what is told is in memory of its own.
func TestMemory(t *testing.T) {
	x := made(t, 4, 0)
	for i := range uint64(4) {
		x.arm(1+i/2, i)
	}
	first, _ := x.w.Tick()
	x.b.tick()
	kept := slices.Clone(first)
	clear(first[:cap(first)])
	fires(t, x.tick(1), 2, 3)
	first = append(first[:0], kept...)
	x.arm(0, 9)
	x.tick(1)
	if !slices.Equal(first, kept) {
		t.Errorf("%v became %v", kept, first)
	}
}

// P11.1, P11.2 and P1: a wheel that is not there, and one that was not made.
func TestNothing(t *testing.T) {
	var none *wheel.Wheel
	for _, w := range []*wheel.Wheel{none, {}} {
		for _, at := range []uint64{0, 1, 1 << 32, last} {
			if h, e := w.Arm(at, 1); h != (api.Handle{}) || e != api.ErrNil {
				t.Errorf("Arm = %v, %d", h, e)
			}
			if e := w.Skip(at); e != api.ErrNil {
				t.Errorf("Skip = %d", e)
			}
			for _, h := range []api.Handle{{}, {I: 0, Serial: 1}, {I: -1, Serial: 1}, {I: api.MaxCells, Serial: last}} {
				if e := w.Again(h, at); e != api.ErrNil {
					t.Errorf("Again = %d", e)
				}
				if e := w.Cancel(h); e != api.ErrNil {
					t.Errorf("Cancel = %d", e)
				}
				if at, ok := w.Due(h); at != 0 || ok {
					t.Errorf("Due = %d, %v", at, ok)
				}
			}
		}
		if fired, e := w.Tick(); len(fired) != 0 || e != api.ErrNil {
			t.Errorf("Tick = %v, %d", fired, e)
		}
		if w.Now() != 0 || w.Len() != 0 || w.Copy() != nil {
			t.Errorf("Now, Len, Copy = %d, %d, %v", w.Now(), w.Len(), w.Copy())
		}
	}
}

// away tells how far from now a walk arms.
func away(seed *uint32) uint64 {
	near := uint64(mixed(seed) % 4)
	switch mixed(seed) % 12 {
	case 0, 1, 2:
		return uint64(mixed(seed) % 12)
	case 3, 4:
		return uint64(mixed(seed) % 300)
	case 5:
		return uint64(mixed(seed) % 3000)
	case 6:
		return 254 + near
	case 7:
		return 65534 + near
	case 8:
		return uint64(mixed(seed))
	case 9:
		return 1<<32 - 2 + near
	case 10:
		return -near
	}
	return uint64(mixed(seed)) << 40
}

// step does one thing of a walk.
func (x both) step(seed *uint32, told []api.Handle) []api.Handle {
	x.t.Helper()
	h := api.Handle{I: mixed(seed) % x.b.size, Serial: uint64(mixed(seed) % 5)}
	if len(told) > 0 {
		h = told[max(0, len(told)-1-mixed(seed)%(2*x.b.size))]
	}
	switch k := mixed(seed) % 100; {
	case k < 40:
		if h := x.arm(x.b.now+away(seed), uint64(mixed(seed))); h.Serial != 0 {
			told = append(told, h)
		}
	case k < 55:
		x.again(h, x.b.now+away(seed))
	case k < 65:
		x.cancel(h)
	case k < 92:
		x.tick(1 + mixed(seed)%20)
	case k < 97:
		x.tick(1 + mixed(seed)%600)
	case k < 98:
		x.tick(65000 + mixed(seed)%1000)
	default:
		x.skip(x.b.now + away(seed))
	}
	x.agree()
	return told
}

// P11.1 and P11.2: long walks of calls against the book, copies going on beside them.
func TestWalks(t *testing.T) {
	for seed := range uint32(60) {
		x := made(t, 1+int(seed)%7, starts[int(seed)%len(starts)])
		var told []api.Handle
		for n := range 200 {
			told = x.step(&seed, told)
			if n%50 == 20 {
				y := x.copy()
				other := slices.Clone(told)
				for range 20 {
					other = y.step(&seed, other)
				}
				x.agree()
			}
		}
	}
}
