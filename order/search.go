package order

import (
	"slices"

	"granary/api"
)

// state is all that counts for what may come next, however it came about.
type state struct {
	stood  int                 // a bit for each call that stands in the order
	values [api.MaxHistory]int // of each block, at the number of the first call that has it
}

// search looks for an order of calls, from the left.
type search struct {
	calls  []api.Call
	blocks []int              // of each call, where the Value of its block stands in a state
	ahead  []int              // of each call, the bits of those that have to stand ahead of it
	dead   map[state]struct{} // which no order leads on from
	order  []int              // as far as it stands
}

func newSearch(calls []api.Call) *search {
	s := &search{calls: calls, dead: map[state]struct{}{}}
	for _, c := range calls {
		s.blocks = append(s.blocks, firstOf(calls, c.Lba))
		s.ahead = append(s.ahead, endedBy(calls, c.From))
	}
	return s
}

// firstOf tells the number of the first call that has that block.
func firstOf(calls []api.Call, lba int) int {
	return slices.IndexFunc(calls, func(c api.Call) bool { return c.Lba == lba })
}

// endedBy tells, by bits, which calls have ended when another begins.
func endedBy(calls []api.Call, from int) int {
	bits := 0
	for n, c := range calls {
		if c.To <= from {
			bits |= 1 << n
		}
	}
	return bits
}

// goOn goes on with the order from a state, always by the least number first, and tells whether all calls have come to stand in it.
// Several ways lead to one state; so that what lies behind it is gone through once only, it is kept where it leads to nothing.
func (s *search) goOn(now state) bool {
	if len(s.order) == len(s.calls) {
		return true
	}
	if _, ok := s.dead[now]; ok {
		return false
	}
	for n := range s.calls {
		then, ok := s.behind(now, n)
		if !ok {
			continue
		}
		s.order = append(s.order, n)
		if s.goOn(then) {
			return true
		}
		s.order = s.order[:len(s.order)-1]
	}
	s.dead[now] = struct{}{}
	return false
}

// behind gives the state behind a call, if that may stand next.
func (s *search) behind(now state, n int) (state, bool) {
	if now.stood>>n&1 == 1 || s.ahead[n]&^now.stood != 0 {
		return state{}, false
	}
	c, block := s.calls[n], s.blocks[n]
	if !c.IsWrite && now.values[block] != c.Value {
		return state{}, false
	}
	now.values[block] = c.Value
	now.stood |= 1 << n
	return now, true
}
