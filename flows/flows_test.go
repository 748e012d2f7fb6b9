package flows_test

import (
	"math"
	"slices"
	"testing"

	"weighbridge/api"
	"weighbridge/flows"
	"weighbridge/flowstate"
	"weighbridge/hash"
	"weighbridge/resize"
)

// limits are timeouts that differ by their states.
var limits = api.Timeouts{UDP: 2, New: 3, Est: 7, Closing: 1}

// web is a pin.
var web = api.Pin{VIP: "web", Name: "one", Life: 3}

// tuple tells a tuple of TCP by its source port.
func tuple(port uint16) api.Tuple {
	return api.Tuple{Proto: api.ProtoTCP, Src: [16]byte{10, 0, 0, 1}, Dst: [16]byte{10, 0, 0, 2}, SPort: port, DPort: 80}
}

// made tells flows that may be.
func made(t *testing.T, cells, places int, outs api.Timeouts) *flows.Flows {
	t.Helper()
	f, err := flows.New(cells, places, outs)
	if err != api.OK {
		t.Fatal("New", cells, places, outs, err)
	}
	return f
}

// pinned pins flows by their ports, all of one state.
func pinned(t *testing.T, f *flows.Flows, state uint8, ports ...uint16) {
	t.Helper()
	for _, port := range ports {
		if err := f.Pin(tuple(port), web, state); err != api.OK {
			t.Fatal("Pin", port, err)
		}
	}
}

// ports tells flows' source ports.
func ports(list []api.Flow) []uint16 {
	var all []uint16
	for _, each := range list {
		all = append(all, each.Tuple.SPort)
	}
	return all
}

// ticked tells the ports of the flows that end at the next tick.
func ticked(t *testing.T, f *flows.Flows) []uint16 {
	t.Helper()
	over, err := f.Tick()
	if err != api.OK {
		t.Fatal("Tick", err)
	}
	return ports(over)
}

// shown is all that flows tell of themselves.
type shown struct {
	all       []api.Flow
	len, left int
	now       uint64
}

// show tells all that flows tell of themselves.
func show(f *flows.Flows) shown {
	return shown{all: slices.Collect(f.All()), len: f.Len(), left: f.Left(), now: f.Now()}
}

// same tells whether flows tell the same.
func (s shown) same(o shown) bool {
	return slices.Equal(s.all, o.all) && s.len == o.len && s.left == o.left && s.now == o.now
}

// P16.1: New tells ErrArg, unless the cells, the most and the timeouts may be.
func TestNew(t *testing.T) {
	ok := api.Timeouts{UDP: 1, New: api.MaxTicks, Est: 1, Closing: api.MaxTicks}
	for _, x := range []struct {
		cells, places int
		outs          api.Timeouts
		err           api.Errno
	}{
		{1, 16, ok, api.OK},
		{api.MaxCells, api.MaxPlaces, ok, api.OK},
		{0, 16, ok, api.ErrArg},
		{-1, 16, ok, api.ErrArg},
		{api.MaxCells + 1, 16, ok, api.ErrArg},
		{math.MaxInt, 16, ok, api.ErrArg},
		{math.MinInt, 16, ok, api.ErrArg},
		{1, 8, ok, api.ErrArg},
		{1, 0, ok, api.ErrArg},
		{1, -16, ok, api.ErrArg},
		{1, 24, ok, api.ErrArg},
		{1, 2 * api.MaxPlaces, ok, api.ErrArg},
		{1, math.MinInt, ok, api.ErrArg},
		{1, 16, api.Timeouts{}, api.ErrArg},
		{1, 16, api.Timeouts{UDP: 0, New: 1, Est: 1, Closing: 1}, api.ErrArg},
		{1, 16, api.Timeouts{UDP: 1, New: 0, Est: 1, Closing: 1}, api.ErrArg},
		{1, 16, api.Timeouts{UDP: 1, New: 1, Est: 0, Closing: 1}, api.ErrArg},
		{1, 16, api.Timeouts{UDP: 1, New: 1, Est: 1, Closing: api.MaxTicks + 1}, api.ErrArg},
	} {
		f, err := flows.New(x.cells, x.places, x.outs)
		if err != x.err || (f != nil) != (err == api.OK) {
			t.Error("New", x, f, err)
		}
		if err == api.OK && !show(f).same(shown{}) {
			t.Error("New", x, show(f))
		}
	}
}

// P16.1: the least and the most cells hold just as many flows.
func TestCells(t *testing.T) {
	one := made(t, 1, 16, limits)
	pinned(t, one, api.StateEst, 1)
	if err := one.Pin(tuple(2), web, api.StateEst); err != api.ErrFull || one.Len() != 1 {
		t.Error("Pin", err, one.Len())
	}
	all := made(t, api.MaxCells, api.MaxPlaces, limits)
	for port := range api.MaxCells {
		if err := all.Pin(tuple(uint16(port)), web, api.StateEst); err != api.OK {
			t.Fatal("Pin", port, err)
		}
		all.Move(8)
	}
	other := tuple(1)
	other.DPort = 81
	if err := all.Pin(other, web, api.StateEst); err != api.ErrFull || all.Len() != api.MaxCells {
		t.Error("Pin", err, all.Len())
	}
}

// P16.1: Pin tells ErrArg ahead of ErrTwice, and that ahead of ErrFull; a flow that is there is as it was pinned.
func TestPin(t *testing.T) {
	f := made(t, 4, 16, limits)
	f.Tick()
	for i, x := range []struct {
		port  uint16
		pin   api.Pin
		state uint8
		err   api.Errno
	}{
		{1, web, 0, api.ErrArg},
		{1, web, api.StateUDP, api.OK},
		{1, web, 0, api.ErrArg},
		{1, web, 5, api.ErrArg},
		{1, web, 255, api.ErrArg},
		{1, web, api.StateUDP, api.ErrTwice},
		{1, api.Pin{}, api.StateEst, api.ErrTwice},
		{2, api.Pin{}, api.StateNew, api.OK},
		{3, api.Pin{VIP: "other", Name: "two"}, api.StateEst, api.OK},
		{4, web, api.StateClosing, api.OK},
		{5, web, 0, api.ErrArg},
		{4, web, api.StateEst, api.ErrTwice},
		{5, web, api.StateEst, api.ErrFull},
	} {
		was := show(f)
		err := f.Pin(tuple(x.port), x.pin, x.state)
		if err != x.err {
			t.Error("Pin", i, x, err)
		}
		if err != api.OK && !show(f).same(was) {
			t.Error("refused, and changed", i, was, show(f))
		}
	}
	want := []api.Flow{
		{Tuple: tuple(1), Pin: web, State: api.StateUDP, Due: 3},
		{Tuple: tuple(2), State: api.StateNew, Due: 4},
		{Tuple: tuple(3), Pin: api.Pin{VIP: "other", Name: "two"}, State: api.StateEst, Due: 8},
		{Tuple: tuple(4), Pin: web, State: api.StateClosing, Due: 2},
	}
	if got := slices.Collect(f.All()); !slices.Equal(got, want) {
		t.Error("All", got)
	}
	for _, each := range want {
		if got, ok := f.Get(each.Tuple); got != each || !ok {
			t.Error("Get", got, ok)
		}
	}
	if got, ok := f.Get(tuple(5)); got != (api.Flow{}) || ok {
		t.Error("Get", got, ok)
	}
}

// P16.1: Pin tells what layer 14's Put tells: the table of 16 places has room for 12 flows, whatever cells there are.
func TestPinTableFull(t *testing.T) {
	f := made(t, 20, 16, limits)
	for port := range uint16(12) {
		pinned(t, f, api.StateEst, port)
	}
	was := show(f)
	if err := f.Pin(tuple(12), web, api.StateUDP); err != api.ErrFull {
		t.Error("Pin", err)
	}
	if _, ok := f.Get(tuple(12)); ok || !show(f).same(was) || f.Len() != 12 {
		t.Error("refused, and changed", was, show(f))
	}
	f.End(tuple(3))
	f.End(tuple(4))
	for port := range uint16(2) { // two marks are an eighth of the places: the table is made anew, and has room
		pinned(t, f, api.StateEst, 20+port)
	}
	all := ports(slices.Collect(f.All()))
	if want := []uint16{0, 1, 2, 21, 20, 5, 6, 7, 8, 9, 10, 11}; !slices.Equal(all, want) {
		t.Error("All", all)
	}
}

// P16.1: two tuples are the same, if all in them is, even where their hashes are the same.
func TestSame(t *testing.T) {
	base := tuple(7)
	list := []api.Tuple{base}
	for _, change := range []func(x *api.Tuple){
		func(x *api.Tuple) { x.V6 = true },
		func(x *api.Tuple) { x.Proto = api.ProtoUDP },
		func(x *api.Tuple) { x.Src[0]++ },
		func(x *api.Tuple) { x.Src[15]++ },
		func(x *api.Tuple) { x.Dst[3]++ },
		func(x *api.Tuple) { x.Dst[4]++ },
		func(x *api.Tuple) { x.SPort++ },
		func(x *api.Tuple) { x.DPort++ },
	} {
		other := base
		change(&other)
		list = append(list, other)
	}
	if hash.Tuple(list[4]) != hash.Tuple(base) || hash.Tuple(list[6]) != hash.Tuple(base) {
		t.Fatal("these rows' hashes were to be the same")
	}
	f := made(t, 16, 64, limits)
	for i, each := range list {
		if err := f.Pin(each, api.Pin{Life: uint64(i)}, api.StateEst); err != api.OK {
			t.Error("Pin", i, err)
		}
	}
	for i, each := range list {
		if got, ok := f.Get(each); !ok || got.Tuple != each || got.Pin.Life != uint64(i) {
			t.Error("Get", i, got, ok)
		}
	}
	if err := f.End(base); err != api.OK {
		t.Error("End", err)
	}
	for i, each := range list {
		if got, ok := f.Get(each); ok != (i > 0) || ok && got.Pin.Life != uint64(i) {
			t.Error("Get", i, got, ok)
		}
	}
	if err := f.Touch(list[4], api.StateUDP); err != api.OK {
		t.Error("Touch", err)
	}
	f.Tick()
	if over, _ := f.Tick(); len(over) != 1 || over[0].Tuple != list[4] {
		t.Error("Tick", over)
	}
}

// P16.1: a flow that has the hash of one that is ended is not ended with it.
func TestSameHashEnds(t *testing.T) {
	a, b := tuple(1), tuple(1)
	b.Src[9] = 1
	f := made(t, 2, 16, limits)
	for _, each := range []api.Tuple{a, b} {
		if err := f.Pin(each, web, api.StateUDP); err != api.OK {
			t.Error("Pin", err)
		}
	}
	if err := f.End(b); err != api.OK {
		t.Error("End", err)
	}
	if _, ok := f.Get(a); !ok {
		t.Error("Get")
	}
	if err := f.Touch(b, api.StateEst); err != api.ErrNone {
		t.Error("Touch", err)
	}
}

// P16.1: Touch tells ErrArg ahead of ErrNone; else the flow has the state, keeps its pin, and its timer is armed anew.
func TestTouch(t *testing.T) {
	f := made(t, 4, 16, limits)
	pinned(t, f, api.StateNew, 1, 2)
	f.Tick()
	for i, x := range []struct {
		port  uint16
		state uint8
		err   api.Errno
		due   uint64 // of the flow of the port 1 then
	}{
		{9, 0, api.ErrArg, 3},
		{1, 0, api.ErrArg, 3},
		{1, 5, api.ErrArg, 3},
		{9, api.StateEst, api.ErrNone, 3},
		{1, api.StateEst, api.OK, 8},
		{1, api.StateEst, api.OK, 8},
		{1, api.StateUDP, api.OK, 3},
		{1, api.StateClosing, api.OK, 2},
		{1, api.StateNew, api.OK, 4},
	} {
		was := show(f)
		err := f.Touch(tuple(x.port), x.state)
		got, ok := f.Get(tuple(1))
		if err != x.err || !ok || got.Due != x.due || got.Pin != web {
			t.Error("Touch", i, x, err, got)
		}
		if err == api.OK && got.State != x.state {
			t.Error("State", i, got)
		}
		if err != api.OK && !show(f).same(was) {
			t.Error("refused, and changed", i, was, show(f))
		}
	}
	if got, _ := f.Get(tuple(2)); got.Due != 3 || got.State != api.StateNew {
		t.Error("the other one", got)
	}
}

// P16.1: End tells ErrNone, if there is no flow; else it is gone, and its tuple may be pinned anew.
func TestEnd(t *testing.T) {
	f := made(t, 2, 16, limits)
	if err := f.End(tuple(1)); err != api.ErrNone {
		t.Error("End", err)
	}
	pinned(t, f, api.StateClosing, 1, 2)
	if err := f.End(tuple(1)); err != api.OK || f.Len() != 1 {
		t.Error("End", err)
	}
	if err := f.End(tuple(1)); err != api.ErrNone {
		t.Error("End", err)
	}
	if err := f.Touch(tuple(1), api.StateEst); err != api.ErrNone {
		t.Error("Touch", err)
	}
	if got, ok := f.Get(tuple(1)); ok || got != (api.Flow{}) {
		t.Error("Get", got, ok)
	}
	if over := ticked(t, f); !slices.Equal(over, []uint16{2}) {
		t.Error("Tick", over)
	}
	pinned(t, f, api.StateUDP, 1)
	if got, ok := f.Get(tuple(1)); !ok || got.Due != 3 || got.State != api.StateUDP {
		t.Error("Get", got, ok)
	}
}

// P16.2: Tick tells the flows that end at the next tick, by their turns, as they were; they are gone.
func TestTick(t *testing.T) {
	f := made(t, 8, 16, limits)
	pinned(t, f, api.StateUDP, 1, 2, 3)
	f.Tick()
	pinned(t, f, api.StateClosing, 4)
	f.Touch(tuple(1), api.StateClosing)
	pinned(t, f, api.StateEst, 5)
	over, err := f.Tick()
	want := []api.Flow{
		{Tuple: tuple(2), Pin: web, State: api.StateUDP, Due: 2},
		{Tuple: tuple(3), Pin: web, State: api.StateUDP, Due: 2},
		{Tuple: tuple(4), Pin: web, State: api.StateClosing, Due: 2},
		{Tuple: tuple(1), Pin: web, State: api.StateClosing, Due: 2},
	}
	if err != api.OK || !slices.Equal(over, want) || f.Now() != 2 || f.Len() != 1 {
		t.Error("Tick", over, err, f.Now(), f.Len())
	}
	for port := range uint16(6) {
		if _, ok := f.Get(tuple(port)); ok != (port == 5) {
			t.Error("Get", port, ok)
		}
	}
	for range 5 {
		if over := ticked(t, f); over != nil {
			t.Error("Tick", over)
		}
	}
	if over := ticked(t, f); !slices.Equal(over, []uint16{5}) || f.Len() != 0 || f.Now() != 8 {
		t.Error("Tick", over, f.Len(), f.Now())
	}
}

// P16.2: what Tick told is the caller's own.
func TestTickApart(t *testing.T) {
	f := made(t, 2, 16, limits)
	pinned(t, f, api.StateClosing, 1)
	pinned(t, f, api.StateUDP, 2)
	over, _ := f.Tick()
	pinned(t, f, api.StateEst, 3)
	if over[0].Tuple != tuple(1) {
		t.Error("Tick", over)
	}
	over[0] = api.Flow{}
	if all := ports(slices.Collect(f.All())); !slices.Equal(all, []uint16{3, 2}) {
		t.Error("All", all)
	}
}

// P16.1 and P16.2: a flow is there till no Touch comes for its state's timeout: just so long, the longest timeout too.
func TestJustSoLong(t *testing.T) {
	outs := api.Timeouts{UDP: 255, New: 256, Est: api.MaxTicks, Closing: 257}
	f := made(t, 4, 16, outs)
	for state := api.StateUDP; state <= api.StateClosing; state++ {
		pinned(t, f, state, uint16(state))
	}
	when := make(map[uint16]uint64)
	for range api.MaxTicks + 1 {
		for _, port := range ticked(t, f) {
			when[port] = f.Now()
		}
	}
	for state := api.StateUDP; state <= api.StateClosing; state++ {
		if when[uint16(state)] != uint64(flowstate.Ticks(outs, state)) {
			t.Error("ended", state, when)
		}
	}
}

// P16.2: the timeouts that Set makes are those of timers that are armed from then on, and of them alone.
func TestSet(t *testing.T) {
	f := made(t, 4, 16, limits)
	pinned(t, f, api.StateUDP, 1, 2)
	for _, bad := range []api.Timeouts{{}, {UDP: 1, New: 1, Est: 1}, {UDP: 1, New: 1, Est: api.MaxTicks + 1, Closing: 1}} {
		if err := f.Set(bad); err != api.ErrArg {
			t.Error("Set", bad, err)
		}
	}
	pinned(t, f, api.StateUDP, 3)
	if err := f.Set(api.Timeouts{UDP: 5, New: 1, Est: 1, Closing: 1}); err != api.OK {
		t.Error("Set", err)
	}
	f.Touch(tuple(2), api.StateUDP)
	pinned(t, f, api.StateUDP, 4)
	for i, want := range []uint64{2, 5, 2, 5} {
		if got, ok := f.Get(tuple(uint16(i + 1))); !ok || got.Due != want {
			t.Error("Get", i, got, ok)
		}
	}
}

// P16.2: Move does at most n steps, as long as the table moves, and tells how many; Left tells how many there are still.
func TestMove(t *testing.T) {
	f := made(t, 64, 256, limits)
	if n := f.Move(5); n != 0 || f.Left() != 0 {
		t.Error("Move", n)
	}
	for port := range uint16(9) {
		pinned(t, f, api.StateEst, port)
	}
	if f.Left() != 0 {
		t.Error("Left", f.Left())
	}
	pinned(t, f, api.StateEst, 9)
	for _, x := range []struct{ n, done, left int }{
		{0, 0, 16}, {-1, 0, 16}, {math.MinInt, 0, 16}, {1, 1, 15}, {4, 4, 11}, {math.MaxInt, 11, 0}, {1, 0, 0},
	} {
		if n := f.Move(x.n); n != x.done || f.Left() != x.left {
			t.Error("Move", x, n, f.Left())
		}
		for port := range uint16(10) {
			if _, ok := f.Get(tuple(port)); !ok {
				t.Error("Get", x, port)
			}
		}
	}
	pinned(t, f, api.StateEst, 10)
	if f.Left() != 0 { // the next one has 64 places: more than 16, and enough
		t.Error("Left", f.Left())
	}
}

// P16.2: All tells all flows by the indices of their timers, as far as they are asked for, each time anew.
func TestAll(t *testing.T) {
	f := made(t, 8, 16, limits)
	all := f.All()
	pinned(t, f, api.StateEst, 1, 2, 3, 4)
	f.End(tuple(2))
	f.End(tuple(3))
	f.Touch(tuple(1), api.StateEst)
	pinned(t, f, api.StateEst, 5) // in the cell that was freed last
	if got := ports(slices.Collect(all)); !slices.Equal(got, []uint16{1, 5, 4}) {
		t.Error("All", got)
	}
	var some []uint16
	for each := range all {
		some = append(some, each.Tuple.SPort)
		if len(some) == 2 {
			break
		}
	}
	if !slices.Equal(some, []uint16{1, 5}) {
		t.Error("All", some)
	}
	var left []uint16
	for each := range all {
		left = append(left, each.Tuple.SPort)
		f.End(tuple(4))
		f.Tick()
	}
	if !slices.Equal(left, []uint16{1, 5}) || f.Len() != 2 {
		t.Error("All", left, f.Len())
	}
	for range all {
		*f = flows.Flows{}
	}
	all(nil)
	made(t, 1, 16, limits).All()(nil)
}

// P16.2: All to a function that is not there tells nothing, flows or not.
func TestAllNil(t *testing.T) {
	f := made(t, 1, 16, limits)
	pinned(t, f, api.StateEst, 1)
	f.All()(nil)
	if f.Len() != 1 {
		t.Error("Len", f.Len())
	}
}

// P16.2: a copy is just like it, its turns, timeouts and steps too, and goes its own way.
func TestCopy(t *testing.T) {
	f := made(t, 32, 64, limits)
	for port := range uint16(10) {
		pinned(t, f, api.StateNew, port)
	}
	f.Tick()
	f.Move(3)
	f.Set(api.Timeouts{UDP: 4, New: 4, Est: 4, Closing: 4})
	was := show(f)
	c := f.Copy()
	if !show(c).same(was) {
		t.Error("Copy", show(c), was)
	}
	f.End(tuple(1))
	f.Touch(tuple(2), api.StateEst)
	f.Set(limits)
	f.Move(20)
	f.Tick()
	if !show(c).same(was) {
		t.Error("the copy went along", show(c), was)
	}
	now := show(f)
	pinned(t, c, api.StateUDP, 20)
	if got, ok := c.Get(tuple(20)); !ok || got.Due != 5 {
		t.Error("Get", got, ok)
	}
	c.Touch(tuple(0), api.StateClosing)
	c.End(tuple(9))
	c.Move(1)
	c.Tick()
	if over := ticked(t, c); !slices.Equal(over, []uint16{1, 2, 3, 4, 5, 6, 7, 8}) {
		t.Error("Tick", over)
	}
	if !show(f).same(now) {
		t.Error("it went along with the copy", show(f), now)
	}
}

// P16.1 and P16.2: of those that are not there, or were not made, ErrNil is told, else nothing.
func TestNil(t *testing.T) {
	for i, f := range []*flows.Flows{nil, {}} {
		for k, err := range []api.Errno{
			f.Pin(tuple(1), web, api.StateEst), f.Pin(tuple(1), web, 0),
			f.Touch(tuple(1), api.StateEst), f.Touch(tuple(1), 0),
			f.End(tuple(1)), f.Set(limits), f.Set(api.Timeouts{}),
		} {
			if err != api.ErrNil {
				t.Error("error", i, k, err)
			}
		}
		if over, err := f.Tick(); over != nil || err != api.ErrNil {
			t.Error("Tick", i, over, err)
		}
		if got, ok := f.Get(tuple(1)); got != (api.Flow{}) || ok {
			t.Error("Get", i, got, ok)
		}
		if f.All() == nil || !show(f).same(shown{}) || f.Move(5) != 0 || f.Move(-1) != 0 || f.Copy() != nil {
			t.Error("something", i)
		}
		f.All()(nil)
	}
}

// P16.2: the chapter's examples.
func TestExamples(t *testing.T) {
	first := made(t, 4, 16, limits)
	pinned(t, first, api.StateUDP, 1)
	if a, b := ticked(t, first), ticked(t, first); a != nil || !slices.Equal(b, []uint16{1}) {
		t.Error("first", a, b)
	}
	second := made(t, 4, 16, limits)
	pinned(t, second, api.StateUDP, 1)
	a := ticked(t, second)
	if err := second.Touch(tuple(1), api.StateUDP); err != api.OK {
		t.Error("Touch", err)
	}
	if b, c := ticked(t, second), ticked(t, second); a != nil || b != nil || !slices.Equal(c, []uint16{1}) {
		t.Error("second", a, b, c)
	}
}

// kept is a flow in the model, with its timer's index and its turn.
type kept struct {
	flow  api.Flow
	index int
	turn  int
}

// model is flows as the chapter's words have them: a list, and a growing table beside, that tells what has room and how many steps are left.
type model struct {
	cells int
	outs  api.Timeouts
	now   uint64
	list  []kept
	freed []int // the cell that was freed last is the last one
	fresh int
	turns int
	table *resize.Growing
}

// at tells where a tuple's flow stands, -1 if there is none.
func (m *model) at(t api.Tuple) int {
	return slices.IndexFunc(m.list, func(k kept) bool { return k.flow.Tuple == t })
}

// due tells when a flow ends that is in a state from now on.
func (m *model) due(state uint8) uint64 {
	return m.now + uint64(flowstate.Ticks(m.outs, state))
}

// pin is Pin.
func (m *model) pin(t api.Tuple, p api.Pin, state uint8) api.Errno {
	if state < 1 || state > 4 {
		return api.ErrArg
	}
	if m.at(t) >= 0 {
		return api.ErrTwice
	}
	if len(m.list) == m.cells {
		return api.ErrFull
	}
	index := m.fresh
	if n := len(m.freed); n > 0 {
		index = m.freed[n-1]
	}
	if err := m.table.Put(api.Entry{Hash: hash.Tuple(t), What: uint32(index)}); err != api.OK {
		return err
	}
	if n := len(m.freed); n > 0 {
		m.freed = m.freed[:n-1]
	} else {
		m.fresh++
	}
	m.turns++
	m.list = append(m.list, kept{flow: api.Flow{Tuple: t, Pin: p, State: state, Due: m.due(state)}, index: index, turn: m.turns})
	return api.OK
}

// touch is Touch.
func (m *model) touch(t api.Tuple, state uint8) api.Errno {
	if state < 1 || state > 4 {
		return api.ErrArg
	}
	i := m.at(t)
	if i < 0 {
		return api.ErrNone
	}
	m.turns++
	m.list[i].turn = m.turns
	m.list[i].flow.State = state
	m.list[i].flow.Due = m.due(state)
	return api.OK
}

// end is End.
func (m *model) end(t api.Tuple) api.Errno {
	i := m.at(t)
	if i < 0 {
		return api.ErrNone
	}
	index := m.list[i].index
	m.table.Drop(api.Entry{Hash: hash.Tuple(t), What: uint32(index)})
	m.freed = append(m.freed, index)
	m.list = slices.Delete(m.list, i, i+1)
	return api.OK
}

// tick is Tick.
func (m *model) tick() []api.Flow {
	m.now++
	slices.SortFunc(m.list, func(a, b kept) int { return a.turn - b.turn })
	var over []api.Flow
	for _, k := range slices.Clone(m.list) {
		if k.flow.Due == m.now {
			over = append(over, k.flow)
			m.end(k.flow.Tuple)
		}
	}
	return over
}

// move is Move.
func (m *model) move(n int) int {
	done := min(n, m.table.Left())
	for range done {
		m.table.Step()
	}
	return max(done, 0)
}

// show is what the flows tell of themselves.
func (m *model) show() shown {
	slices.SortFunc(m.list, func(a, b kept) int { return a.index - b.index })
	s := shown{len: len(m.list), left: m.table.Left(), now: m.now}
	for _, k := range m.list {
		s.all = append(s.all, k.flow)
	}
	return s
}

// draw tells numbers that look like chance, the same ones each time.
func draw(seed uint64) func(n int) int {
	return func(n int) int {
		seed = hash.Mix(seed + 0x9e3779b97f4a7c15)
		return int(seed % uint64(n))
	}
}

// P16.1 and P16.2: long walks tell just what the chapter's words do, at each step.
func TestWalk(t *testing.T) {
	for seed, size := range []struct{ cells, places, tuples int }{
		{1, 16, 3}, {8, 16, 12}, {40, 16, 40}, {40, 64, 60}, {100, 128, 150}, {300, 512, 400},
	} {
		outs := api.Timeouts{UDP: 9, New: 30, Est: 300, Closing: 1}
		f := made(t, size.cells, size.places, outs)
		table, _ := resize.New(size.places)
		m := &model{cells: size.cells, outs: outs, table: table}
		next := draw(uint64(seed))
		for step := range 6000 {
			walk(t, f, m, next, size.tuples)
			if step%500 == 499 {
				f = f.Copy()
			}
			if t.Failed() {
				t.Fatal("walk", seed, step)
			}
		}
	}
}

// walk does one call to flows and to the model, and holds what they tell against one another.
func walk(t *testing.T, f *flows.Flows, m *model, next func(n int) int, tuples int) {
	t.Helper()
	x := tuple(uint16(next(tuples)))
	if next(4) == 0 {
		x.Src[8] = 1 // of the same hash as the one without it
	}
	state := uint8(next(6))
	call := next(20)
	switch {
	case call < 9:
		p := api.Pin{VIP: "v", Name: "b", Life: uint64(next(100))}
		if got, want := f.Pin(x, p, state), m.pin(x, p, state); got != want {
			t.Error("Pin", x, state, got, want)
		}
	case call < 12:
		if got, want := f.Touch(x, state), m.touch(x, state); got != want {
			t.Error("Touch", x, state, got, want)
		}
	case call < 14:
		if got, want := f.End(x), m.end(x); got != want {
			t.Error("End", x, got, want)
		}
	case call < 17:
		got, err := f.Tick()
		if want := m.tick(); err != api.OK || !slices.Equal(got, want) {
			t.Error("Tick", got, err, want)
		}
	case call < 19:
		n := next(8) - 1
		if got, want := f.Move(n), m.move(n); got != want {
			t.Error("Move", n, got, want)
		}
	default:
		outs := api.Timeouts{UDP: uint32(next(20)), New: 20, Est: 200, Closing: uint32(1 + next(600))}
		want := api.ErrArg
		if outs.UDP > 0 {
			m.outs, want = outs, api.OK
		}
		if got := f.Set(outs); got != want {
			t.Error("Set", outs, got, want)
		}
	}
	got, ok := f.Get(x)
	if i := m.at(x); ok != (i >= 0) || ok && got != m.list[i].flow || !ok && got != (api.Flow{}) {
		t.Error("Get", x, got, ok)
	}
	if got, want := show(f), m.show(); !got.same(want) {
		t.Error("told", got, want)
	}
}
