package tape

import "standstill/api"

// band is a configuration that changes in place. All cells outside of low to high are 0; the outermost of those may be 0, too, because the bounds are only drawn in when a limit is near.
type band struct {
	state, pos int
	base       int // the position of cells[0]
	cells      []int
	low, high  int
	inner      int  // the number of cells up to MaxPos that are not 0
	outer      bool // a cell beyond MaxPos, which the head cannot reach, is not 0
}

func newBand(c api.Config) *band {
	b := &band{state: c.State, pos: c.Pos, base: c.From, cells: copied(c.Cells)}
	b.low, b.high = c.From, c.From+len(c.Cells)-1
	for i, x := range c.Cells {
		if x != 0 && c.From+i > api.MaxPos {
			b.outer = true
		} else if x != 0 {
			b.inner++
		}
	}
	return b
}

// clear lets the band begin at the head: without cells it needs no memory between them and the head.
func (b *band) clear() {
	b.base, b.cells = b.pos, b.cells[:0]
	b.low, b.high = b.pos, b.pos-1
}

func (b *band) symbol() int {
	i := b.pos - b.base
	if i < 0 || i >= len(b.cells) {
		return 0
	}
	return b.cells[i]
}

// write stores a symbol under the head; false if the cells would be too many.
func (b *band) write(x int) bool {
	old := b.symbol()
	if old == x {
		return true
	}
	if x != 0 && !b.widen() {
		return false
	}
	b.cells[b.pos-b.base] = x
	if old == 0 {
		b.inner++
	}
	if x == 0 {
		b.inner--
	}
	return true
}

func (b *band) empty() bool {
	return b.inner == 0 && !b.outer
}

// widen makes the bounds contain the head; false if there would be too many cells between them.
func (b *band) widen() bool {
	if b.empty() {
		b.clear()
	}
	low, high := min(b.low, b.pos), max(b.high, b.pos)
	if high-low >= api.MaxCells {
		b.drawIn()
		low, high = min(b.low, b.pos), max(b.high, b.pos)
		if high-low >= api.MaxCells {
			return false
		}
	}
	b.low, b.high = low, high
	b.reach()
	return true
}

// drawIn moves the bounds to the outermost cells that are not 0; there is one.
func (b *band) drawIn() {
	for b.cells[b.low-b.base] == 0 {
		b.low++
	}
	for b.cells[b.high-b.base] == 0 {
		b.high--
	}
}

// reach grows the memory to the bounds, to twice as much so that it rarely has to.
func (b *band) reach() {
	before := max(0, b.base-b.low)
	after := max(0, b.high-(b.base+len(b.cells)-1))
	if before == 0 && after == 0 {
		return
	}
	if before > 0 {
		before += len(b.cells) + before
	}
	if after > 0 {
		after += len(b.cells) + after
	}
	grown := make([]int, before+len(b.cells)+after)
	copy(grown[before:], b.cells)
	b.cells = grown
	b.base -= before
}

// step does a step; false if a limit is exceeded.
func (b *band) step(m api.Machine) bool {
	r := m.Rules[b.state][b.symbol()]
	if !b.write(r.Write) {
		return false
	}
	b.pos += r.Move
	b.state = r.Next
	return inReach(b.pos) && (b.inner > 0 || !b.outer)
}

func (b *band) config() api.Config {
	c := api.Config{State: b.state, Pos: b.pos}
	if b.empty() {
		return c
	}
	b.drawIn()
	c.From = b.low
	c.Cells = copied(b.cells[b.low-b.base : b.high-b.base+1])
	return c
}

// Step returns the configuration after a step.
func Step(m api.Machine, c api.Config) (api.Config, api.Errno) {
	if !Fits(m, c) {
		return api.Config{}, api.ErrForm
	}
	if c.State == api.Stop {
		return api.Config{}, api.ErrState
	}
	b := newBand(c)
	if !b.step(m) {
		return api.Config{}, api.ErrSize
	}
	return b.config(), api.OK
}

// Run does steps.
func Run(m api.Machine, c api.Config, n int) (api.Config, int, api.Errno) {
	if !Fits(m, c) {
		return api.Config{}, 0, api.ErrForm
	}
	if n < 0 || n > api.MaxSteps {
		return api.Config{}, 0, api.ErrArg
	}
	b := newBand(c)
	done := 0
	for done < n && b.state != api.Stop {
		if !b.step(m) {
			return api.Config{}, 0, api.ErrSize
		}
		done++
	}
	return b.config(), done, api.OK
}
