package block

import (
	"standstill/api"
	"standstill/tape"
)

// wall is a tape that is divided into blocks; those that are missing are blank.
type wall struct {
	k          int
	state, pos int
	blocks     map[int][]int
}

// place returns the number of the block with the head, and the cell in it.
func (b *wall) place() (int, int) {
	p := b.pos % b.k
	if p < 0 {
		p += b.k
	}
	return (b.pos - p) / b.k, p
}

func (b *wall) cells(number int) []int {
	if w := b.blocks[number]; w != nil {
		return w
	}
	return make([]int, b.k)
}

// cross crosses the block with the head; the wall stays as it is if the head never leaves.
func (b *wall) cross(m api.Machine) api.Exit {
	number, p := b.place()
	x := cross(m, b.state, p, b.cells(number))
	if x.Kind != api.ExitNever {
		b.blocks[number] = x.Word
		b.state = x.State
		b.pos = number*b.k + x.Pos
	}
	return x
}

func (b *wall) config() api.Config {
	low, high := 0, 0
	for number := range b.blocks {
		low, high = min(low, number), max(high, number)
	}
	c := api.Config{State: b.state, Pos: b.pos, From: low * b.k}
	for number := low; number <= high; number++ {
		c.Cells = append(c.Cells, b.cells(number)...)
	}
	return trimmed(c)
}

func trimmed(c api.Config) api.Config {
	n := len(c.Cells)
	for n > 0 && c.Cells[n-1] == 0 {
		n--
	}
	blanks := 0
	for blanks < n && c.Cells[blanks] == 0 {
		blanks++
	}
	c.Cells = c.Cells[blanks:n]
	c.From += blanks
	if len(c.Cells) == 0 {
		c.From = 0
	}
	return c
}

// Run does crossings from the blank configuration on.
func Run(m api.Machine, k, n int) (api.Config, int, int, int, api.Errno) {
	if !tape.Valid(m) {
		return api.Config{}, 0, 0, 0, api.ErrForm
	}
	if k < 1 || k > api.MaxBlock || n < 0 || n > maxCrossings {
		return api.Config{}, 0, 0, 0, api.ErrArg
	}
	b := &wall{k: k, blocks: map[int][]int{}}
	done, steps, kind := 0, 0, 0
	for done < n && kind != api.ExitStop && kind != api.ExitNever {
		x := b.cross(m)
		done++
		steps += x.Steps
		kind = x.Kind
	}
	return b.config(), done, steps, kind, api.OK
}
