package tape

import "standstill/api"

// Mirror returns the machine that moves in the opposite directions.
func Mirror(m api.Machine) (api.Machine, api.Errno) {
	if !Valid(m) {
		return api.Machine{}, api.ErrForm
	}
	out := blankMachine(m)
	for s, row := range m.Rules {
		for x, r := range row {
			r.Move = -r.Move
			out.Rules[s][x] = r
		}
	}
	return out, api.OK
}

func blankMachine(m api.Machine) api.Machine {
	out := api.Machine{States: m.States, Symbols: m.Symbols, Rules: make([][]api.Rule, m.States)}
	for s := range out.Rules {
		out.Rules[s] = make([]api.Rule, m.Symbols)
	}
	return out
}

// Reflect returns a configuration with opposite positions.
func Reflect(c api.Config) (api.Config, api.Errno) {
	if !fitsSome(c) {
		return api.Config{}, api.ErrForm
	}
	out := api.Config{State: c.State, Pos: -c.Pos}
	n := len(c.Cells)
	if n > 0 {
		out.From = -(c.From + n - 1)
		out.Cells = make([]int, n)
		for i, x := range c.Cells {
			out.Cells[n-1-i] = x
		}
	}
	if !fitsSome(out) {
		return api.Config{}, api.ErrArg
	}
	return out, api.OK
}

// Rename returns the machine with other names of states and symbols.
func Rename(m api.Machine, states, symbols []int) (api.Machine, api.Errno) {
	if !Valid(m) {
		return api.Machine{}, api.ErrForm
	}
	if len(states) != m.States || len(symbols) != m.Symbols || !renaming(states) || !renaming(symbols) {
		return api.Machine{}, api.ErrArg
	}
	out := blankMachine(m)
	for s, row := range m.Rules {
		for x, r := range row {
			r.Write = symbols[r.Write]
			r.Next = renamedState(r.Next, states)
			out.Rules[states[s]][symbols[x]] = r
		}
	}
	return out, api.OK
}

func renamedState(state int, states []int) int {
	if state == api.Stop {
		return state
	}
	return states[state]
}

// renaming reports whether a list is a permutation that leaves 0 in its place.
func renaming(names []int) bool {
	if len(names) == 0 || len(names) > api.MaxStates || names[0] != 0 {
		return false
	}
	var met [api.MaxStates]bool
	for _, x := range names {
		if x < 0 || x >= len(names) || met[x] {
			return false
		}
		met[x] = true
	}
	return true
}

// Renamed returns a configuration with other names of states and symbols.
func Renamed(c api.Config, states, symbols []int) (api.Config, api.Errno) {
	if !fitsSome(c) {
		return api.Config{}, api.ErrForm
	}
	if !renaming(states) || !renaming(symbols) || len(symbols) > api.MaxSymbols || c.State >= len(states) {
		return api.Config{}, api.ErrArg
	}
	out := api.Config{State: renamedState(c.State, states), Pos: c.Pos, From: c.From, Cells: copied(c.Cells)}
	for i, x := range out.Cells {
		if x >= len(symbols) {
			return api.Config{}, api.ErrArg
		}
		out.Cells[i] = symbols[x]
	}
	return out, api.OK
}

// Shift returns a configuration at other positions.
func Shift(c api.Config, by int) (api.Config, api.Errno) {
	if !fitsSome(c) {
		return api.Config{}, api.ErrForm
	}
	if by < -2*api.MaxPos || by > 2*api.MaxPos {
		return api.Config{}, api.ErrArg
	}
	out := api.Config{State: c.State, Pos: c.Pos + by, From: c.From, Cells: copied(c.Cells)}
	if len(c.Cells) > 0 {
		out.From += by
	}
	if !fitsSome(out) {
		return api.Config{}, api.ErrArg
	}
	return out, api.OK
}
