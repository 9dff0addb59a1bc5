package leap

import (
	"slices"

	"standstill/api"
)

// hand is a tape that changes in place. The nearest run of a side is its last one, so that it is taken off and put on fast.
type hand struct {
	state, pos, symbol int
	sides              [2][]api.Run
	long               bool // a run has become too long
}

func newHand(t api.Tape) *hand {
	h := &hand{state: t.State, pos: t.Pos, symbol: t.Symbol}
	h.sides[left] = turned(t.Left)
	h.sides[right] = turned(t.Right)
	return h
}

func turned(runs []api.Run) []api.Run {
	out := slices.Clone(runs)
	slices.Reverse(out)
	return out
}

func (h *hand) tape() api.Tape {
	return api.Tape{State: h.state, Pos: h.pos, Symbol: h.symbol, Left: turned(h.sides[left]), Right: turned(h.sides[right])}
}

// small reports whether the limits hold.
func (h *hand) small() bool {
	return !h.long && inReach(h.pos) && len(h.sides[left]) <= api.MaxRuns && len(h.sides[right]) <= api.MaxRuns
}

// put returns a function literal that puts equal cells on a side, nearest to the head. It joins them with equal ones there, and leaves out blanks behind which all is blank.
func (h *hand) put(side int) func(symbol, count int) {
	return func(symbol, count int) {
		runs := h.sides[side]
		last := len(runs) - 1
		switch {
		case last < 0 && symbol == 0:
			return
		case last >= 0 && runs[last].Symbol == symbol:
			runs[last].Count += count
			count = runs[last].Count
		default:
			h.sides[side] = append(runs, api.Run{Symbol: symbol, Count: count})
		}
		h.long = h.long || count > api.MaxTotal
	}
}

// near returns the run next to the head; for a side that is blank, one without cells.
func (h *hand) near(side int) api.Run {
	runs := h.sides[side]
	if len(runs) == 0 {
		return api.Run{}
	}
	return runs[len(runs)-1]
}

// take removes the nearest cells of the nearest run of a side, which has as many.
func (h *hand) take(side, count int) {
	last := len(h.sides[side]) - 1
	if last < 0 {
		return
	}
	h.sides[side][last].Count -= count
	if h.sides[side][last].Count == 0 {
		h.sides[side] = h.sides[side][:last]
	}
}

// leap does a leap, and returns its steps and whether there is none because the machine is endless.
func (h *hand) leap(m api.Machine) (int, bool) {
	r := m.Rules[h.state][h.symbol]
	ahead, behind := right, left
	if r.Move < 0 {
		ahead, behind = left, right
	}
	steps := 1
	next := h.near(ahead)
	if r.Next == h.state && next.Symbol == h.symbol {
		if next.Count == 0 {
			return 0, true
		}
		steps += next.Count
		h.take(ahead, next.Count)
	}
	h.put(behind)(r.Write, steps)
	h.symbol = h.near(ahead).Symbol
	h.take(ahead, 1)
	h.state = r.Next
	h.pos += r.Move * steps
	return steps, false
}
