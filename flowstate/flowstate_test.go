package flowstate_test

import (
	"math"
	"testing"

	"weighbridge/api"
	"weighbridge/flowstate"
)

// Flags of TCP by their first letters, so that rows of them are short; high are the two bits that no name is for.
const (
	fin  = 1
	syn  = 2
	rst  = 4
	psh  = 8
	ack  = 16
	urg  = 32
	high = 64 | 128
)

// States, and what packets do, by their numbers.
const (
	udp, fresh, est, closing = 1, 2, 3, 4 // fresh is StateNew
	keep, gone, anew         = 1, 2, 3    // anew is FlowFresh
)

// longest is the longest timeout.
const longest = 1048576

// step is what a packet does to a flow, and the state behind.
type step struct{ what, state uint8 }

// row is what the chapter says of a set of flags: 0, if no flow stays that begins with it, and what it does to flows that are new, established and closing.
type row struct {
	flags                uint8
	first                uint8
	toNew, toEst, toDone step
}

// rows are all sets of FIN, SYN, RST and ACK that may be; what else is among the flags changes nothing.
var rows = []row{
	{fin, closing, step{keep, closing}, step{keep, closing}, step{keep, closing}},
	{fin | ack, closing, step{keep, closing}, step{keep, closing}, step{keep, closing}},
	{syn, fresh, step{keep, fresh}, step{keep, est}, step{anew, fresh}},
	{syn | ack, fresh, step{keep, fresh}, step{keep, est}, step{keep, closing}},
	{rst, 0, step{gone, fresh}, step{gone, est}, step{gone, closing}},
	{rst | ack, 0, step{gone, fresh}, step{gone, est}, step{gone, closing}},
	{rst | fin, 0, step{gone, fresh}, step{gone, est}, step{gone, closing}},
	{rst | fin | ack, 0, step{gone, fresh}, step{gone, est}, step{gone, closing}},
	{ack, est, step{keep, est}, step{keep, est}, step{keep, closing}},
}

// wrong are all sets of FIN, SYN, RST and ACK that may not be.
var wrong = []uint8{
	0,
	syn | fin,
	syn | rst,
	syn | rst | fin,
	syn | fin | ack,
	syn | rst | ack,
	syn | rst | fin | ack,
}

// beside are all sets of flags that nothing hangs on.
func beside() []uint8 {
	var list []uint8
	for flags := range 256 {
		if flags&(fin|syn|rst|ack) == 0 {
			list = append(list, uint8(flags))
		}
	}
	return list
}

// refused holds what Next tells of a state and flags that may not be.
func refused(t *testing.T, state, flags uint8) {
	t.Helper()
	if what, next, e := flowstate.Next(state, flags); what != 0 || next != 0 || e != api.ErrArg {
		t.Errorf("Next(%d, %d): %d, %d, %d", state, flags, what, next, e)
	}
}

// does holds what Next tells.
func does(t *testing.T, state, flags uint8, want step) {
	t.Helper()
	if what, next, e := flowstate.Next(state, flags); what != want.what || next != want.state || e != api.OK {
		t.Errorf("Next(%d, %d): %d, %d, %d, not %d, %d, 0", state, flags, what, next, e, want.what, want.state)
	}
}

// begins holds what First tells; 0 is no state.
func begins(t *testing.T, proto, flags, want uint8) {
	t.Helper()
	if state, ok := flowstate.First(proto, flags); state != want || ok != (want != 0) {
		t.Errorf("First(%d, %d): %d, %v, not %d", proto, flags, state, ok, want)
	}
}

// TestRowsAreWhole holds the tests' own rows to there being each set of flags once.
func TestRowsAreWhole(t *testing.T) {
	var times [256]int
	for _, more := range beside() {
		for _, r := range rows {
			times[r.flags|more]++
		}
		for _, flags := range wrong {
			times[flags|more]++
		}
	}
	for flags, n := range times {
		if n != 1 {
			t.Errorf("the flags %d: %d times", flags, n)
		}
	}
}

// P15.1: the states are those of the words, and no other number is one.
func TestMay(t *testing.T) {
	for state := range 256 {
		if want := state >= udp && state <= closing; flowstate.May(uint8(state)) != want {
			t.Errorf("May(%d): %v", state, !want)
		}
	}
}

// timeoutsWith tells timeouts that may be, but for that of one state.
func timeoutsWith(state uint8, ticks uint32) api.Timeouts {
	c := api.Timeouts{UDP: 7, New: 7, Est: 7, Closing: 7}
	switch state {
	case udp:
		c.UDP = ticks
	case fresh:
		c.New = ticks
	case est:
		c.Est = ticks
	case closing:
		c.Closing = ticks
	}
	return c
}

// P15.1: each timeout has its two bounds, and each one counts.
func TestMayTimeouts(t *testing.T) {
	for state := uint8(udp); state <= closing; state++ {
		for _, ticks := range []uint32{1, 2, 255, 256, 65535, 65536, longest - 1, longest} {
			if !flowstate.MayTimeouts(timeoutsWith(state, ticks)) {
				t.Errorf("the timeout %d of the state %d may be", ticks, state)
			}
		}
		for _, ticks := range []uint32{0, longest + 1, 2 * longest, 1 << 31, math.MaxUint32} {
			if flowstate.MayTimeouts(timeoutsWith(state, ticks)) {
				t.Errorf("the timeout %d of the state %d may not be", ticks, state)
			}
		}
	}
}

// P15.1: all at one bound, and all beyond it.
func TestMayTimeoutsAtOnce(t *testing.T) {
	for _, x := range []struct {
		ticks uint32
		want  bool
	}{{0, false}, {1, true}, {longest, true}, {longest + 1, false}, {math.MaxUint32, false}} {
		c := api.Timeouts{UDP: x.ticks, New: x.ticks, Est: x.ticks, Closing: x.ticks}
		if flowstate.MayTimeouts(c) != x.want {
			t.Errorf("four timeouts of %d: %v", x.ticks, !x.want)
		}
	}
}

// P15.1: each set of flags, with TCP.
func TestFirstOfTCP(t *testing.T) {
	for _, more := range beside() {
		for _, r := range rows {
			begins(t, 6, r.flags|more, r.first)
		}
		for _, flags := range wrong {
			begins(t, 6, flags|more, 0)
		}
	}
}

// P15.1: of UDP nothing hangs on the flags, those included that may not be.
func TestFirstOfUDP(t *testing.T) {
	for flags := range 256 {
		begins(t, 17, uint8(flags), udp)
	}
}

// P15.1: no other protocol has flows, whatever the flags are.
func TestFirstOfOthers(t *testing.T) {
	for proto := range 256 {
		if proto == 6 || proto == 17 {
			continue
		}
		for flags := range 256 {
			begins(t, uint8(proto), uint8(flags), 0)
		}
	}
}

// P15.1: what of a packet's flags wins, by hand.
func TestFirstByHand(t *testing.T) {
	for _, x := range []struct{ proto, flags, want uint8 }{
		{17, 0, udp},
		{6, syn, fresh},
		{6, syn | ack, fresh},
		{6, syn | psh | urg | high, fresh},
		{6, ack, est},
		{6, ack | psh, est},
		{6, fin, closing},
		{6, fin | ack, closing},
		{6, rst, 0},
		{6, rst | fin | ack, 0},
		{6, 0, 0},
		{6, psh | urg | high, 0},
		{6, syn | fin, 0},
		{6, syn | rst | ack, 0},
		{1, syn, 0},
		{58, 0, 0},
		{0, ack, 0},
	} {
		begins(t, x.proto, x.flags, x.want)
	}
}

// P15.2: each state of TCP and each set of flags that may be.
func TestNextOfTCP(t *testing.T) {
	for _, more := range beside() {
		for _, r := range rows {
			does(t, fresh, r.flags|more, r.toNew)
			does(t, est, r.flags|more, r.toEst)
			does(t, closing, r.flags|more, r.toDone)
		}
	}
}

// P15.2: flags that may not be are refused in each state of TCP.
func TestNextRefusesFlags(t *testing.T) {
	for _, more := range beside() {
		for _, flags := range wrong {
			refused(t, fresh, flags|more)
			refused(t, est, flags|more)
			refused(t, closing, flags|more)
		}
	}
}

// P15.2: of UDP nothing hangs on the flags, those included that may not be.
func TestNextOfUDP(t *testing.T) {
	for flags := range 256 {
		does(t, udp, uint8(flags), step{keep, udp})
	}
}

// P15.2: what is no state is refused with all flags.
func TestNextRefusesStates(t *testing.T) {
	for state := range 256 {
		if state >= udp && state <= closing {
			continue
		}
		for flags := range 256 {
			refused(t, uint8(state), uint8(flags))
		}
	}
}

// The chapter's examples.
func TestExamples(t *testing.T) {
	does(t, api.StateNew, api.FlagACK, step{api.FlowKeep, api.StateEst})
	does(t, api.StateClosing, api.FlagSYN, step{api.FlowFresh, api.StateNew})
	does(t, api.StateEst, api.FlagRST|api.FlagACK, step{api.FlowGone, api.StateEst})
}

// P15.2: behind a FIN all states are StateClosing till a SYN comes, whatever comes between.
func TestClosingStays(t *testing.T) {
	for _, from := range []uint8{fresh, est, closing} {
		_, state, e := flowstate.Next(from, fin|ack)
		if e != api.OK || state != closing {
			t.Fatal(from, state, e)
		}
		for flags := range 256 {
			if flags&syn != 0 {
				continue
			}
			if _, next, e := flowstate.Next(state, uint8(flags)); e == api.OK && next != closing {
				t.Errorf("behind a FIN, the flags %d: the state %d", flags, next)
			}
		}
		does(t, state, syn, step{anew, fresh})
	}
}

// P15.2: a connection from its first packet to its end, and the next one of the same ports.
func TestConnection(t *testing.T) {
	state, ok := flowstate.First(6, syn)
	if !ok {
		t.Fatal("no flow begins with a SYN")
	}
	for i, x := range []struct {
		flags uint8
		want  step
	}{
		{syn, step{keep, fresh}}, // sent anew
		{ack, step{keep, est}},
		{ack | psh, step{keep, est}},
		{syn, step{keep, est}}, // one that is late
		{fin | ack, step{keep, closing}},
		{ack, step{keep, closing}},
		{syn | ack, step{keep, closing}},
		{syn, step{anew, fresh}},
		{ack, step{keep, est}},
		{rst | ack, step{gone, est}},
	} {
		what, next, e := flowstate.Next(state, x.flags)
		if what != x.want.what || next != x.want.state || e != api.OK {
			t.Fatal(i, what, next, e)
		}
		state = next
	}
}

// P15.2: each state has the timeout of its name, and what is no state has none.
func TestTicks(t *testing.T) {
	c := api.Timeouts{UDP: 30, New: 5, Est: longest, Closing: 1}
	want := map[int]uint32{udp: 30, fresh: 5, est: longest, closing: 1}
	for state := range 256 {
		if n := flowstate.Ticks(c, uint8(state)); n != want[state] {
			t.Errorf("Ticks of the state %d: %d, not %d", state, n, want[state])
		}
	}
}

// P15.2: a state's timeout is told as it is, even where the timeouts may not be.
func TestTicksOfTimeoutsThatMayNotBe(t *testing.T) {
	for state := uint8(udp); state <= closing; state++ {
		for _, ticks := range []uint32{0, longest + 1, math.MaxUint32} {
			if n := flowstate.Ticks(timeoutsWith(state, ticks), state); n != ticks {
				t.Errorf("Ticks of the state %d, whose timeout is %d: %d", state, ticks, n)
			}
		}
	}
	great := api.Timeouts{UDP: math.MaxUint32, New: math.MaxUint32, Est: math.MaxUint32, Closing: math.MaxUint32}
	for _, state := range []uint8{0, closing + 1, 255} {
		if n := flowstate.Ticks(great, state); n != 0 {
			t.Errorf("Ticks of %d, which is no state: %d", state, n)
		}
	}
}
