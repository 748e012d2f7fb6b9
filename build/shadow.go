package build

import (
	"slices"

	"weighbridge/api"
	"weighbridge/maglev"
	"weighbridge/perm"
)

// A shadow is a build that is on.
type shadow struct {
	plan  plan
	order []int   // who takes part
	ready []taker // those of them that are set up
	turn  int     // which one's turn it is
	taken int     // how many slots it took in this turn
	free  int
}

// A taker is one that takes part: its number, the slot that it looks at next, and how far each next one is. That slot is kept, for perm.At asks at each call anew whether the permutation may be.
type taker struct {
	number, slot, skip int
}

// begin tells a build of a list, of which nothing is done.
func begin(l []api.Target, m int) *shadow {
	return &shadow{plan: empty(l, m), order: maglev.Order(weighted(l)), free: m}
}

// done tells whether the build is done.
func (s *shadow) done() bool {
	return s.free == 0 || len(s.order) == 0
}

// run does at most so many units. It asks ahead of each one whether the build is done, so that it ends, however many they are.
func (s *shadow) run(units int) {
	for range units {
		if s.done() {
			return
		}
		unit := s.look
		if len(s.ready) < len(s.order) {
			unit = s.setUp
		}
		unit()
	}
}

// setUp makes the next one that takes part ready to look.
func (s *shadow) setUp() {
	number := s.order[len(s.ready)]
	p, _ := perm.Of(s.plan.list[number].Name, len(s.plan.slots))
	s.ready = append(s.ready, taker{number: number, slot: p.Offset, skip: p.Skip})
}

// look has the one whose turn it is look at its next slot, and take it if it is free.
func (s *shadow) look() {
	its := &s.ready[s.turn]
	slot := its.slot
	its.slot = (slot + its.skip) % len(s.plan.slots)
	if s.plan.slots[slot] == none {
		s.plan.slots[slot] = its.number
		s.free--
		s.count(s.plan.list[its.number].Weight)
	}
}

// count counts a slot that was taken; behind as many as the weight the turn is the next one's.
func (s *shadow) count(weight int) {
	s.taken++
	if s.taken == weight {
		s.taken = 0
		s.turn = (s.turn + 1) % len(s.ready)
	}
}

// copied tells another one just like it.
func (s *shadow) copied() *shadow {
	if s == nil {
		return nil
	}
	other := *s
	other.plan = s.plan.copied()
	other.order = slices.Clone(s.order)
	other.ready = slices.Clone(s.ready)
	return &other
}
