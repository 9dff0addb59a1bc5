package leap

import (
	"slices"

	"standstill/api"
	"standstill/tape"
)

// From returns the tape of a configuration.
func From(m api.Machine, c api.Config) (api.Tape, api.Errno) {
	if !tape.Fits(m, c) {
		return api.Tape{}, api.ErrForm
	}
	h := &hand{state: c.State, pos: c.Pos, symbol: tape.Read(c, c.Pos)}
	end := c.From + len(c.Cells)
	put := h.put(left)
	for p := c.From; p < min(end, c.Pos); p++ {
		put(c.Cells[p-c.From], 1)
	}
	if c.Pos > end {
		put(0, c.Pos-end)
	}
	put = h.put(right)
	for p := end - 1; p >= max(c.From, c.Pos+1); p-- {
		put(c.Cells[p-c.From], 1)
	}
	if c.Pos+1 < c.From {
		put(0, c.From-c.Pos-1)
	}
	if !h.small() {
		return api.Tape{}, api.ErrSize
	}
	return h.tape(), api.OK
}

// To returns the configuration of a tape.
func To(m api.Machine, t api.Tape) (api.Config, api.Errno) {
	if !Fits(m, t) {
		return api.Config{}, api.ErrForm
	}
	c := api.Config{State: t.State, Pos: t.Pos}
	from := t.Pos
	for _, r := range t.Left {
		from -= r.Count
		// So far away, the outermost cell is beyond all limits, whatever follows.
		if from < -2*api.MaxTotal {
			return api.Config{}, api.ErrSize
		}
	}
	runs := slices.Concat(turned(t.Left), []api.Run{{Symbol: t.Symbol, Count: 1}}, t.Right)
	for len(runs) > 0 && runs[0].Symbol == 0 {
		from += runs[0].Count
		runs = runs[1:]
	}
	for len(runs) > 0 && runs[len(runs)-1].Symbol == 0 {
		runs = runs[:len(runs)-1]
	}
	for _, r := range runs {
		if r.Count > api.MaxCells-len(c.Cells) {
			return api.Config{}, api.ErrSize
		}
		c.Cells = append(c.Cells, slices.Repeat([]int{r.Symbol}, r.Count)...)
	}
	if len(runs) > 0 {
		c.From = from
	}
	if !tape.Fits(m, c) {
		return api.Config{}, api.ErrSize
	}
	return c, api.OK
}
