package normal

import (
	"standstill/api"
	"standstill/strip"
)

func validSize(states, symbols int) bool {
	return states >= 1 && states <= api.MaxStates && symbols >= 2 && symbols <= api.MaxSymbols
}

// Root returns the root of the tree.
func Root(states, symbols int) (api.Machine, api.Errno) {
	if !validSize(states, symbols) {
		return api.Machine{}, api.ErrArg
	}
	return root(states, symbols), api.OK
}

func root(states, symbols int) api.Machine {
	m := api.Machine{States: states, Symbols: symbols, Rules: make([][]api.Rule, states)}
	for s := range m.Rules {
		m.Rules[s] = make([]api.Rule, symbols)
		for x := range m.Rules[s] {
			m.Rules[s][x] = plain()
		}
	}
	return m
}

// with returns a copy of a machine with another rule.
func with(m api.Machine, s, x int, r api.Rule) api.Machine {
	out := root(m.States, m.Symbols)
	for i, row := range m.Rules {
		copy(out.Rules[i], row)
	}
	out.Rules[s][x] = r
	return out
}

// Children returns the children of a machine, and whether it stops.
func Children(m api.Machine, n int) ([]api.Machine, bool, api.Errno) {
	if e := check(m, n); e != api.OK {
		return nil, false, e
	}
	list, stops := children(m, n)
	return list, stops, api.OK
}

func children(m api.Machine, n int) ([]api.Machine, bool) {
	s, x, stops := stoppingRule(m, n)
	total := m.States * m.Symbols
	count, write, next := stoppingRules(m)
	if !stops || count < 2 {
		return nil, stops
	}
	moves := []int{-1, 1}
	if count == total {
		moves = moves[1:]
	}
	var out []api.Machine
	for w := 0; w <= min(m.Symbols-1, write+1); w++ {
		for _, move := range moves {
			for q := 0; q <= min(m.States-1, next+1); q++ {
				out = append(out, with(m, s, x, api.Rule{Write: w, Move: move, Next: q}))
			}
		}
	}
	return out, stops
}

// stoppingRule returns the state and the symbol of the rule that stops a machine within n steps, if one does.
func stoppingRule(m api.Machine, n int) (int, int, bool) {
	c := &strip.Strip{}
	for range n {
		s, x := c.State, c.Read(c.Pos)
		c.Step(m)
		if c.State == api.Stop {
			return s, x, true
		}
	}
	return 0, 0, false
}

// stoppingRules returns the number of stopping rules, and the greatest Write and Next of the others.
func stoppingRules(m api.Machine) (count, write, next int) {
	for _, row := range m.Rules {
		for _, r := range row {
			if r.Next == api.Stop {
				count++
				continue
			}
			write = max(write, r.Write)
			next = max(next, r.Next)
		}
	}
	return count, write, next
}

// Walk returns the machines of the tree.
func Walk(states, symbols, n, most int) ([]api.Machine, api.Errno) {
	if !validSize(states, symbols) || n < 0 || n > maxWalkSteps || most < 1 || most > api.MaxTree {
		return nil, api.ErrArg
	}
	var out []api.Machine
	var walk func(m api.Machine) bool
	walk = func(m api.Machine) bool {
		if len(out) == most {
			return false
		}
		out = append(out, m)
		list, _ := children(m, n)
		for _, child := range list {
			if !walk(child) {
				return false
			}
		}
		return true
	}
	if !walk(root(states, symbols)) {
		return nil, api.ErrSize
	}
	return out, api.OK
}

// Path returns the machines from the root to the normal form of a machine.
func Path(m api.Machine, n int) ([]api.Machine, api.Errno) {
	if e := check(m, n); e != api.OK {
		return nil, e
	}
	form, used := normalForm(m, n)
	if count, _, _ := stoppingRules(form); count == 0 {
		return nil, api.ErrNone
	}
	step := root(m.States, m.Symbols)
	out := []api.Machine{step}
	for _, at := range used {
		step = with(step, at[0], at[1], form.Rules[at[0]][at[1]])
		out = append(out, step)
	}
	return out, api.OK
}
