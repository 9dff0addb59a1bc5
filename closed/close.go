package closed

import (
	"standstill/api"
	"standstill/automaton"
	"standstill/tape"
)

// growth makes the least lists: members are added until all demands are met. It knows members by number, which is much faster than by value: searches make many growths.
type growth struct {
	m      api.Machine
	autos  [sides][][]int
	has    []bool
	work   []element // elements whose demands are not yet met
	stops  bool      // an element has a stopping rule
	edges  [sides][]bool
	into   [sides][][]edge // the edges so far that lead to a state
	asked  [sides][]bool
	asking [sides][][][2]int // by state: the demands so far (the state behind, the state of the machine) on the edges that lead to it
}

func newGrowth(m api.Machine, left, right [][]int) *growth {
	g := &growth{m: m, autos: [sides][][]int{left, right}}
	g.has = make([]bool, len(left)*m.States*m.Symbols*len(right))
	for side, rows := range g.autos {
		g.edges[side] = make([]bool, len(rows)*m.Symbols)
		g.into[side] = make([][]edge, len(rows))
		g.asking[side] = make([][][2]int, len(rows))
		g.asked[side] = make([]bool, len(left)*len(right)*m.States)
	}
	return g
}

func (g *growth) addElement(x element) {
	n := ((x[0]*g.m.States+x[1])*g.m.Symbols+x[2])*len(g.autos[rightSide]) + x[3]
	if g.has[n] {
		return
	}
	g.has[n] = true
	g.work = append(g.work, x)
	g.stops = g.stops || g.m.Rules[x[1]][x[2]].Next == api.Stop
}

func (g *growth) addEdge(side int, e edge) {
	n := e[0]*g.m.Symbols + e[1]
	if g.edges[side][n] {
		return
	}
	g.edges[side][n] = true
	q := g.autos[side][e[0]][e[1]]
	g.into[side][q] = append(g.into[side][q], e)
	for _, d := range g.asking[side][q] {
		g.addElement(elementOf(side, d[0], d[1], e))
	}
}

// demand adds the elements after a step to a side, over all edges that lead to a state, now and later.
func (g *growth) demand(ahead, at, behind, t int) {
	n := (at*len(g.autos[sides-1-ahead])+behind)*g.m.States + t
	if g.asked[ahead][n] {
		return
	}
	g.asked[ahead][n] = true
	g.asking[ahead][at] = append(g.asking[ahead][at], [2]int{behind, t})
	for _, e := range g.into[ahead][at] {
		g.addElement(elementOf(ahead, behind, t, e))
	}
}

// grow meets all demands; it ends early if an element has a stopping rule.
func (g *growth) grow() {
	g.addEdge(leftSide, edge{})
	g.addEdge(rightSide, edge{})
	g.addElement(element{})
	for len(g.work) > 0 && !g.stops {
		x := g.work[len(g.work)-1]
		g.work = g.work[:len(g.work)-1]
		r := g.m.Rules[x[1]][x[2]]
		ahead, behind := sidesOf(r.Move)
		ends := [sides]int{x[0], x[3]}
		g.addEdge(behind, edge{ends[behind], r.Write})
		g.demand(ahead, ends[ahead], g.autos[behind][ends[behind]][r.Write], r.Next)
	}
}

func (g *growth) edgeList(side int) []edge {
	var out []edge
	for n, ok := range g.edges[side] {
		if ok {
			out = append(out, edge{n / g.m.Symbols, n % g.m.Symbols})
		}
	}
	return out
}

func (g *growth) elementList() []element {
	var out []element
	right := len(g.autos[rightSide])
	for n, ok := range g.has {
		if ok {
			rest := n / right
			out = append(out, element{rest / g.m.Symbols / g.m.States, rest / g.m.Symbols % g.m.States, rest % g.m.Symbols, n % right})
		}
	}
	return out
}

// Close returns the least closed set with two automata.
func Close(m api.Machine, left, right [][]int, most int) (api.Closed, api.Errno) {
	if !tape.Valid(m) || !automaton.Valid(left, m.Symbols) || !automaton.Valid(right, m.Symbols) {
		return api.Closed{}, api.ErrForm
	}
	if most < 1 || most > api.MaxSet {
		return api.Closed{}, api.ErrArg
	}
	g := newGrowth(m, left, right)
	g.grow()
	if g.stops {
		return api.Closed{}, api.ErrNone
	}
	out := api.Closed{LeftEdges: g.edgeList(leftSide), RightEdges: g.edgeList(rightSide), Set: g.elementList()}
	if max(len(out.LeftEdges), len(out.RightEdges), len(out.Set)) > most {
		return api.Closed{}, api.ErrSize
	}
	out.Left, out.Right = cloned(left), cloned(right)
	return out, api.OK
}

func cloned(rows [][]int) [][]int {
	out := make([][]int, len(rows))
	for q, row := range rows {
		out[q] = append([]int(nil), row...)
	}
	return out
}
