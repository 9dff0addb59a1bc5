// Package tape is layer 1: it runs Turing machines.
package tape

import "standstill/api"

// The moves of the head, numbered from the left to the right.
const (
	toLeft = iota - 1
	noMove
	toRight
)

// Valid reports whether a machine is valid.
func Valid(m api.Machine) bool {
	if m.States < 1 || m.States > api.MaxStates || m.Symbols < 2 || m.Symbols > api.MaxSymbols {
		return false
	}
	if len(m.Rules) != m.States {
		return false
	}
	for _, row := range m.Rules {
		if len(row) != m.Symbols {
			return false
		}
		for _, r := range row {
			if !validRule(r, m.States, m.Symbols) {
				return false
			}
		}
	}
	return true
}

func validRule(r api.Rule, states, symbols int) bool {
	if r.Write < 0 || r.Write >= symbols || r.Next < api.Stop || r.Next >= states {
		return false
	}
	return r.Move >= toLeft && r.Move <= toRight && r.Move != noMove
}

// Fits reports whether a configuration is valid for a machine.
func Fits(m api.Machine, c api.Config) bool {
	return Valid(m) && fits(c, m.States, m.Symbols)
}

// fitsSome reports whether a configuration is valid for some machine.
func fitsSome(c api.Config) bool {
	return fits(c, api.MaxStates, api.MaxSymbols)
}

func fits(c api.Config, states, symbols int) bool {
	if c.State < api.Stop || c.State >= states || !inReach(c.Pos) || !inReach(c.From) {
		return false
	}
	n := len(c.Cells)
	if n == 0 {
		return c.From == 0
	}
	if n > api.MaxCells || c.Cells[0] == 0 || c.Cells[n-1] == 0 {
		return false
	}
	for _, x := range c.Cells {
		if x < 0 || x >= symbols {
			return false
		}
	}
	return true
}

func inReach(pos int) bool {
	return pos >= -api.MaxPos && pos <= api.MaxPos
}

// Read returns the symbol at a position.
func Read(c api.Config, pos int) int {
	if pos < c.From {
		return 0
	}
	// The difference of two far positions may exceed an int, but not a uint64.
	i := uint64(pos) - uint64(c.From)
	if i >= uint64(len(c.Cells)) {
		return 0
	}
	return c.Cells[i]
}

// Ones returns the number of cells that are not 0.
func Ones(c api.Config) int {
	n := 0
	for _, x := range c.Cells {
		if x != 0 {
			n++
		}
	}
	return n
}

func copied(xs []int) []int {
	out := make([]int, len(xs))
	copy(out, xs)
	return out
}
