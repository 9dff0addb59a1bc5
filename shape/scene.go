package shape

import (
	"slices"

	"standstill/api"
)

// block is a word that is there n + extra times.
type block struct {
	word  []int
	extra int
}

// scene is a symbolic configuration. The nearest item of a side is its last one: a symbol, or -1 for the first block, -2 for the second one, and so on.
type scene struct {
	state, symbol int
	sides         [sidesOfHead][]int
	blocks        []block
}

func newScene(s api.Shape) *scene {
	c := &scene{state: s.State}
	c.push(toTheLeft, s.Words[0]...)
	for i, word := range s.Repeats {
		c.blocks = append(c.blocks, block{word: word})
		c.push(toTheLeft, -1-i)
		c.push(toTheLeft, s.Words[i+1]...)
	}
	return c
}

func (c *scene) push(side int, items ...int) {
	c.sides[side] = append(c.sides[side], items...)
}

// blockOf returns the block that is an item; nil for a symbol.
func (c *scene) blockOf(item int) *block {
	if item >= 0 {
		return nil
	}
	return &c.blocks[-1-item]
}

// take removes the nearest item of a side; a blank, if there is none.
func (c *scene) take(side int) int {
	last := len(c.sides[side]) - 1
	if last < 0 {
		return 0
	}
	item := c.sides[side][last]
	c.sides[side] = c.sides[side][:last]
	return item
}

// move does a move; false if there is none.
func (c *scene) move(m api.Machine, first int) bool {
	r := m.Rules[c.state][c.symbol]
	if r.Next == api.Stop {
		return false
	}
	ahead, behind := toTheRight, toTheLeft
	if r.Move < 0 {
		ahead, behind = toTheLeft, toTheRight
	}
	c.push(behind, r.Write)
	c.state = r.Next
	item := c.take(ahead)
	for c.cross(m, item, ahead) {
		c.push(behind, item)
		item = c.take(ahead)
	}
	if b := c.blockOf(item); b != nil {
		if first+b.extra < 1 {
			return false
		}
		b.extra--
		c.push(ahead, item)
		c.push(ahead, fromAfar(b.word, ahead)...)
		item = c.take(ahead)
	}
	c.symbol = item
	return true
}

// fromAfar returns the symbols of a word as items of a side, the nearest one last.
func fromAfar(word []int, side int) []int {
	out := slices.Clone(word)
	if side == toTheRight {
		slices.Reverse(out)
	}
	return out
}

// cross runs over an item ahead, if it is a block that is crossed.
func (c *scene) cross(m api.Machine, item, ahead int) bool {
	b := c.blockOf(item)
	if b == nil {
		return false
	}
	word, ok := crossed(m, b.word, c.state, ahead)
	if ok {
		b.word = word
	}
	return ok
}

// crossed returns a word after the head has run over it to a side, and whether it leaves it there in the state in which it came.
func crossed(m api.Machine, word []int, state, side int) ([]int, bool) {
	cells := slices.Clone(word)
	at := 0
	if side == toTheLeft {
		at = len(cells) - 1
	}
	s := state
	for steps := 0; at >= 0 && at < len(cells); steps++ {
		r := m.Rules[s][cells[at]]
		if steps == maxInWord || r.Next == api.Stop {
			return nil, false
		}
		cells[at] = r.Write
		at += r.Move
		s = r.Next
	}
	return cells, s == state && (at < 0) == (side == toTheLeft)
}

// reads reports whether the left side represents a word for a number n, up to blanks at the beginning.
func (c *scene) reads(n int, word []int) bool {
	rest := len(word)
	read := func(x int) bool {
		if rest == 0 {
			return x == 0
		}
		rest--
		return word[rest] == x
	}
	for _, item := range slices.Backward(c.sides[toTheLeft]) {
		b := c.blockOf(item)
		if b == nil {
			if !read(item) {
				return false
			}
			continue
		}
		for range n + b.extra {
			for _, x := range slices.Backward(b.word) {
				if !read(x) {
					return false
				}
			}
		}
	}
	return len(withoutBlanks(word[:rest])) == 0
}

// goal is a shape with the tapes to which its symbolic configuration is to lead. There never are more blocks than at the beginning, so that their number is known.
type goal struct {
	shape api.Shape
	tapes [][]int
}

func newGoal(s api.Shape) goal {
	g := goal{shape: s}
	for i := range 2 << len(s.Repeats) {
		g.tapes = append(g.tapes, tapeWord(s, s.First+i+1))
	}
	return g
}

func (c *scene) returns(g goal) bool {
	if c.state != g.shape.State || c.symbol != 0 {
		return false
	}
	for _, item := range c.sides[toTheRight] {
		if item != 0 {
			return false
		}
	}
	for i, word := range g.tapes {
		if !c.reads(g.shape.First+i, word) {
			return false
		}
	}
	return true
}

// grows reports whether the symbolic configuration of a shape returns.
func grows(m api.Machine, s api.Shape) bool {
	c, g := newScene(s), newGoal(s)
	for range api.MaxMoves {
		if !c.move(m, s.First) {
			return false
		}
		if c.returns(g) {
			return true
		}
	}
	return false
}
