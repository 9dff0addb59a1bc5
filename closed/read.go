package closed

import (
	"slices"

	"standstill/api"
	"standstill/automaton"
	"standstill/tape"
)

// reader is an automaton on its way from afar to the head.
type reader struct {
	rows [][]int
	q    int
	used map[edge]bool
}

func (r *reader) read(x int) {
	r.used[edge{r.q, x}] = true
	r.q = r.rows[r.q][x]
}

// blanks reads so many blanks. There may be far more of them than states: then the states return, and whole rounds change nothing.
func (r *reader) blanks(n int) {
	when := map[int]int{}
	for n > 0 {
		before, met := when[r.q]
		if met {
			n %= before - n
			when = map[int]int{}
			if n == 0 {
				return
			}
		}
		when[r.q] = n
		r.read(0)
		n--
	}
}

// half reads the cells on one side: first those that are stored, from afar, then the blanks between them and the head.
func half(rows [][]int, cells []int, blanks int) *reader {
	r := &reader{rows: rows, used: map[edge]bool{{}: true}}
	for _, x := range cells {
		r.read(x)
	}
	r.blanks(blanks)
	return r
}

// halves returns what both automata read.
func halves(c api.Closed, k api.Config) (*reader, *reader) {
	n := len(k.Cells)
	end := k.From + n
	if n == 0 {
		return half(c.Left, nil, 0), half(c.Right, nil, 0)
	}
	left := k.Cells[:min(n, max(0, k.Pos-k.From))]
	right := slices.Clone(k.Cells[max(0, min(n, k.Pos+1-k.From)):])
	slices.Reverse(right)
	leftBlanks, rightBlanks := 0, 0
	if k.Pos > end {
		leftBlanks = k.Pos - end
	}
	if k.Pos+1 < k.From {
		rightBlanks = k.From - k.Pos - 1
	}
	return half(c.Left, left, leftBlanks), half(c.Right, right, rightBlanks)
}

// Read returns the element of a configuration, and whether it belongs to a closed set.
func Read(m api.Machine, c api.Closed, k api.Config) ([4]int, bool, api.Errno) {
	if !tape.Valid(m) || !automaton.Valid(c.Left, m.Symbols) || !automaton.Valid(c.Right, m.Symbols) {
		return element{}, false, api.ErrForm
	}
	if !tape.Fits(m, k) || k.State == api.Stop {
		return element{}, false, api.ErrForm
	}
	left, right := halves(c, k)
	x := element{left.q, k.State, tape.Read(k, k.Pos), right.q}
	belongs := slices.Contains(c.Set, x) && contains(c.LeftEdges, left.used) && contains(c.RightEdges, right.used)
	return x, belongs, api.OK
}

// contains reports whether a list contains all edges that are used.
func contains(list []edge, used map[edge]bool) bool {
	rest := len(used)
	counted := map[edge]bool{}
	for _, e := range list {
		if used[e] && !counted[e] {
			counted[e] = true
			rest--
		}
	}
	return rest == 0
}
