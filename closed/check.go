// Package closed is layer 12: closed sets of configurations.
package closed

import (
	"slices"

	"standstill/api"
	"standstill/automaton"
	"standstill/tape"
)

// The sides of the head, as indices.
const (
	leftSide = iota
	rightSide
	sides
)

type (
	edge    = [2]int
	element = [4]int
)

// isList reports whether a list is rising, not too long, and has only valid members.
func isList[T any](list []T, compare func(a, b T) int, valid func(x T) bool) bool {
	if len(list) > api.MaxSet {
		return false
	}
	for i, x := range list {
		if !valid(x) || i > 0 && compare(list[i-1], x) >= 0 {
			return false
		}
	}
	return true
}

func compareEdges(a, b edge) int {
	return slices.Compare(a[:], b[:])
}

func compareElements(a, b element) int {
	return slices.Compare(a[:], b[:])
}

func isEdge(e edge, rows, symbols int) bool {
	return e[0] >= 0 && e[0] < rows && e[1] >= 0 && e[1] < symbols
}

// isForm reports whether automata and lists are such as a closed set for a machine has them.
func isForm(m api.Machine, c api.Closed) bool {
	if !automaton.Valid(c.Left, m.Symbols) || !automaton.Valid(c.Right, m.Symbols) {
		return false
	}
	leftEdge := func(e edge) bool { return isEdge(e, len(c.Left), m.Symbols) }
	rightEdge := func(e edge) bool { return isEdge(e, len(c.Right), m.Symbols) }
	if !isList(c.LeftEdges, compareEdges, leftEdge) || !isList(c.RightEdges, compareEdges, rightEdge) {
		return false
	}
	return isList(c.Set, compareElements, func(x element) bool {
		return leftEdge(edge{x[0], x[2]}) && rightEdge(edge{x[3], x[2]}) && x[1] >= 0 && x[1] < m.States
	})
}

// Check reports whether a closed set is right for a machine.
func Check(m api.Machine, c api.Closed) (bool, api.Errno) {
	if !tape.Valid(m) {
		return false, api.ErrForm
	}
	return isForm(m, c) && newJudge(m, c).right(), api.OK
}

// judge knows the members of the lists of a closed set.
type judge struct {
	m     api.Machine
	autos [sides][][]int
	list  []element
	set   map[element]bool
	edges [sides]map[edge]bool
	into  [sides][][]edge // the edges that lead to a state of an automaton
	done  map[step]bool
}

// step is what a step demands: the state of the automaton behind the head after it, the state of the machine, and the state of the other automaton before it. Many elements demand the same.
type step struct {
	ahead         int // the side to which the head moves
	behind, t, at int
}

func newJudge(m api.Machine, c api.Closed) *judge {
	j := &judge{m: m, autos: [sides][][]int{c.Left, c.Right}, list: c.Set, set: map[element]bool{}, done: map[step]bool{}}
	for _, x := range c.Set {
		j.set[x] = true
	}
	for side, list := range [sides][]edge{c.LeftEdges, c.RightEdges} {
		j.edges[side] = map[edge]bool{}
		j.into[side] = make([][]edge, len(j.autos[side]))
		for _, e := range list {
			j.edges[side][e] = true
			q := j.autos[side][e[0]][e[1]]
			j.into[side][q] = append(j.into[side][q], e)
		}
	}
	return j
}

func (j *judge) right() bool {
	if !j.edges[leftSide][edge{}] || !j.edges[rightSide][edge{}] || !j.set[element{}] {
		return false
	}
	for _, x := range j.list {
		if !j.leads(x) {
			return false
		}
	}
	return true
}

// leads reports whether all that an element demands is there.
func (j *judge) leads(x element) bool {
	r := j.m.Rules[x[1]][x[2]]
	if r.Next == api.Stop {
		return false
	}
	ahead, behind := sidesOf(r.Move)
	ends := [sides]int{x[0], x[3]}
	if !j.edges[behind][edge{ends[behind], r.Write}] {
		return false
	}
	s := step{ahead: ahead, behind: j.autos[behind][ends[behind]][r.Write], t: r.Next, at: ends[ahead]}
	if j.done[s] {
		return true
	}
	for _, e := range j.into[ahead][s.at] {
		if !j.set[elementOf(ahead, s.behind, s.t, e)] {
			return false
		}
	}
	j.done[s] = true
	return true
}

// sidesOf returns the side to which a move leads, and the one that it leaves behind.
func sidesOf(move int) (int, int) {
	if move > 0 {
		return rightSide, leftSide
	}
	return leftSide, rightSide
}

// elementOf returns the element after a step over an edge of the automaton ahead.
func elementOf(ahead, behind, t int, e edge) element {
	if ahead == rightSide {
		return element{behind, t, e[1], e[0]}
	}
	return element{e[0], t, e[1], behind}
}
