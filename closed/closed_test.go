package closed

import (
	"math/rand"
	"reflect"
	"slices"
	"testing"

	"standstill/api"
	"standstill/tape"
)

func machine(t *testing.T, s string) api.Machine {
	t.Helper()
	m, e := tape.Parse(s)
	if e != api.OK {
		t.Fatalf("%q: %d", s, e)
	}
	return m
}

func anyMachine(r *rand.Rand) api.Machine {
	m := api.Machine{States: 1 + r.Intn(3), Symbols: 2 + r.Intn(2)}
	for s := 0; s < m.States; s++ {
		var row []api.Rule
		for x := 0; x < m.Symbols; x++ {
			rule := api.Rule{Write: r.Intn(m.Symbols), Move: 2*r.Intn(2) - 1, Next: r.Intn(m.States)}
			if r.Intn(6) == 0 {
				rule.Next = api.Stop
			}
			row = append(row, rule)
		}
		m.Rules = append(m.Rules, row)
	}
	return m
}

func anyAutomaton(r *rand.Rand, symbols int) [][]int {
	rows := make([][]int, 1+r.Intn(4))
	for q := range rows {
		for range symbols {
			rows[q] = append(rows[q], r.Intn(len(rows)))
		}
	}
	rows[0][0] = 0
	return rows
}

func one(symbols int) [][]int {
	return [][]int{make([]int, symbols)}
}

// slow makes the least lists by the rules, again and again until nothing is added.
func slow(m api.Machine, left, right [][]int) (api.Closed, bool) {
	le, re, set := map[edge]bool{{}: true}, map[edge]bool{{}: true}, map[element]bool{{}: true}
	for before := -1; before != len(le)+len(re)+len(set); {
		before = len(le) + len(re) + len(set)
		for _, x := range keys(set) {
			r := m.Rules[x[1]][x[2]]
			if r.Next == api.Stop {
				return api.Closed{}, false
			}
			if r.Move > 0 {
				le[edge{x[0], r.Write}] = true
				for _, e := range keys(re) {
					if right[e[0]][e[1]] == x[3] {
						set[element{left[x[0]][r.Write], r.Next, e[1], e[0]}] = true
					}
				}
				continue
			}
			re[edge{x[3], r.Write}] = true
			for _, e := range keys(le) {
				if left[e[0]][e[1]] == x[0] {
					set[element{e[0], r.Next, e[1], right[x[3]][r.Write]}] = true
				}
			}
		}
	}
	c := api.Closed{Left: left, Right: right, LeftEdges: keys(le), RightEdges: keys(re), Set: keys(set)}
	slices.SortFunc(c.LeftEdges, compareEdges)
	slices.SortFunc(c.RightEdges, compareEdges)
	slices.SortFunc(c.Set, compareElements)
	return c, true
}

func keys[K comparable](m map[K]bool) []K {
	var out []K
	for k := range m {
		out = append(out, k)
	}
	return out
}

func mustCheck(t *testing.T, m api.Machine, c api.Closed) bool {
	t.Helper()
	ok, e := Check(m, c)
	if e != api.OK {
		t.Fatal(e)
	}
	return ok
}

func TestExamples(t *testing.T) {
	c, e := Close(machine(t, "0RA1RZ"), one(2), one(2), 9)
	if e != api.OK || !slices.Equal(c.Set, []element{{}}) || len(c.LeftEdges) != 1 || len(c.RightEdges) != 1 {
		t.Error(c, e)
	}
	c, e = Close(machine(t, "1RA1RZ"), one(2), one(2), 9)
	if e != api.OK || !slices.Equal(c.Set, []element{{}}) || !slices.Equal(c.LeftEdges, []edge{{}, {0, 1}}) || !slices.Equal(c.RightEdges, []edge{{}}) {
		t.Error(c, e)
	}
}

func TestLeast(t *testing.T) {
	r := rand.New(rand.NewSource(1))
	found := 0
	for i := 0; i < 3000; i++ {
		m := anyMachine(r)
		left, right := anyAutomaton(r, m.Symbols), anyAutomaton(r, m.Symbols)
		want, ok := slow(m, left, right)
		got, e := Close(m, left, right, api.MaxSet)
		if !ok {
			if e != api.ErrNone || !reflect.DeepEqual(got, api.Closed{}) {
				t.Fatalf("%v, %v, %v: %v, %d", m, left, right, got, e)
			}
			continue
		}
		if e != api.OK || !reflect.DeepEqual(got, want) || !mustCheck(t, m, got) {
			t.Fatalf("%v: %v, %d, want %v", m, got, e, want)
		}
		found++
		most := max(len(want.Set), len(want.LeftEdges), len(want.RightEdges))
		if _, e := Close(m, left, right, most); e != api.OK {
			t.Fatal(e)
		}
		if most > 1 {
			if c, e := Close(m, left, right, most-1); e != api.ErrSize || c.Set != nil {
				t.Fatal(e)
			}
		}
		checkParts(t, m, got)
		checkRun(t, r, m, got)
		checkMirror(t, m, got)
		checkFiner(t, r, m, got)
	}
	if found < 300 {
		t.Error(found)
	}
}

// checkParts leaves out one member after the other: then the rest is not right, since the lists are least.
func checkParts(t *testing.T, m api.Machine, c api.Closed) {
	t.Helper()
	for i := range c.Set {
		less := c
		less.Set = slices.Delete(slices.Clone(c.Set), i, i+1)
		if mustCheck(t, m, less) {
			t.Fatalf("%v without %v is right", c, c.Set[i])
		}
	}
	for i := range c.LeftEdges {
		less := c
		less.LeftEdges = slices.Delete(slices.Clone(c.LeftEdges), i, i+1)
		if mustCheck(t, m, less) {
			t.Fatalf("%v without %v is right", c, c.LeftEdges[i])
		}
	}
	for i := range c.RightEdges {
		less := c
		less.RightEdges = slices.Delete(slices.Clone(c.RightEdges), i, i+1)
		if mustCheck(t, m, less) {
			t.Fatalf("%v without %v is right", c, c.RightEdges[i])
		}
	}
}

func checkRun(t *testing.T, r *rand.Rand, m api.Machine, c api.Closed) {
	t.Helper()
	k := api.Config{}
	for range 100 {
		x, ok, e := Read(m, c, k)
		if e != api.OK || !ok || !slices.Contains(c.Set, x) {
			t.Fatalf("%v: %v does not belong to %v", m, k, c)
		}
		if k, e = tape.Step(m, k); e != api.OK {
			t.Fatal(e)
		}
	}
	for range 30 {
		k := api.Config{State: r.Intn(m.States), Pos: r.Intn(7), From: 0}
		for range 6 {
			k.Cells = append(k.Cells, r.Intn(m.Symbols))
		}
		k.Cells[0], k.Cells[5] = 1, 1
		if _, ok, _ := Read(m, c, k); !ok {
			continue
		}
		next, e := tape.Step(m, k)
		if e != api.OK || next.State == api.Stop {
			t.Fatalf("%v: %v stops", m, k)
		}
		if _, ok, _ := Read(m, c, next); !ok {
			t.Fatalf("%v: %v leads to %v", m, k, next)
		}
	}
}

func checkMirror(t *testing.T, m api.Machine, c api.Closed) {
	t.Helper()
	other, _ := tape.Mirror(m)
	x := api.Closed{Left: c.Right, Right: c.Left, LeftEdges: c.RightEdges, RightEdges: c.LeftEdges}
	for _, s := range c.Set {
		x.Set = append(x.Set, element{s[3], s[1], s[2], s[0]})
	}
	slices.SortFunc(x.Set, compareElements)
	if !mustCheck(t, other, x) {
		t.Fatalf("%v: not right for the mirrored machine", c)
	}
}

func checkFiner(t *testing.T, r *rand.Rand, m api.Machine, c api.Closed) {
	t.Helper()
	refine := func(a [][]int) [][]int {
		b := anyAutomaton(r, m.Symbols)
		out := make([][]int, len(a)*len(b))
		for q := range out {
			for x := range m.Symbols {
				out[q] = append(out[q], a[q/len(b)][x]*len(b)+b[q%len(b)][x])
			}
		}
		return out
	}
	if _, e := Close(m, refine(c.Left), refine(c.Right), api.MaxSet); e != api.OK {
		t.Fatalf("%v: finer %d", c, e)
	}
}

func TestCheckRefuses(t *testing.T) {
	m := machine(t, "1RB2LA1RZ_2LA1RB0RA")
	three := machine(t, "1RB0LA1RZ_1LA1RB1RZ")
	c, e := Close(three, one(3), one(3), 100)
	if e != api.OK || !mustCheck(t, three, c) {
		t.Fatal(c, e)
	}
	if mustCheck(t, m, c) {
		t.Error("right for another machine")
	}
	change := func(f func(c *api.Closed)) api.Closed {
		x := api.Closed{Left: cloned(c.Left), Right: cloned(c.Right), LeftEdges: slices.Clone(c.LeftEdges), RightEdges: slices.Clone(c.RightEdges), Set: slices.Clone(c.Set)}
		f(&x)
		return x
	}
	bad := []api.Closed{
		{},
		change(func(c *api.Closed) { c.Left = nil }),
		change(func(c *api.Closed) { c.Right = [][]int{{0, 0}} }),
		change(func(c *api.Closed) { c.Right = [][]int{{1, 0, 0}, {0, 0, 0}} }),
		change(func(c *api.Closed) { c.Left = [][]int{{0, 0, 1}} }),
		change(func(c *api.Closed) { slices.Reverse(c.LeftEdges) }),
		change(func(c *api.Closed) { c.Set = append(c.Set, c.Set[len(c.Set)-1]) }),
		change(func(c *api.Closed) { c.Set = append(c.Set, element{1, 0, 0, 0}) }),
		change(func(c *api.Closed) { c.Set = append(c.Set, element{0, 2, 0, 0}) }),
		change(func(c *api.Closed) { c.Set = append(c.Set, element{0, 1, 3, 0}) }),
		change(func(c *api.Closed) { c.Set = append(c.Set, element{0, 1, 2, 1}) }),
		change(func(c *api.Closed) { c.Set = append([]element{{-1, 0, 0, 0}}, c.Set...) }),
		change(func(c *api.Closed) { c.LeftEdges = append(c.LeftEdges, edge{1, 0}) }),
		change(func(c *api.Closed) { c.RightEdges = append(c.RightEdges, edge{0, 3}) }),
		change(func(c *api.Closed) { c.RightEdges = append([]edge{{0, -1}}, c.RightEdges...) }),
		// This one has a stopping rule.
		change(func(c *api.Closed) { c.Set = append(c.Set, element{0, 1, 2, 0}) }),
	}
	for i, x := range bad {
		if mustCheck(t, three, x) {
			t.Errorf("%d: %v is right", i, x)
		}
	}
}

func TestLists(t *testing.T) {
	m := machine(t, "0RA1RZ")
	// A list with too many elements, though all else is right: blanks everywhere, and both automata count.
	ring := make([][]int, 256)
	for q := range ring {
		ring[q] = []int{q, (q + 1) % 256}
	}
	c := api.Closed{Left: ring, Right: ring, LeftEdges: []edge{{}}, RightEdges: []edge{{}}}
	for l := range 256 {
		for r := range 256 {
			c.Set = append(c.Set, element{l, 0, 0, r})
		}
		c.LeftEdges = append(c.LeftEdges, edge{l, 0})
	}
	c.LeftEdges = c.LeftEdges[1:]
	for r := 1; r < 256; r++ {
		c.RightEdges = append(c.RightEdges, edge{r, 0})
	}
	if mustCheck(t, m, c) {
		t.Error("too many elements are right")
	}
	c.Set = c.Set[:256*100]
	if !mustCheck(t, m, c) {
		t.Error("many elements are not right")
	}
}

func TestManyMembers(t *testing.T) {
	// Nearly everything is reached, so that the limit is exceeded by far; whether a rule stops is known all the same.
	r := rand.New(rand.NewSource(7))
	rows := make([][]int, api.MaxAuto)
	for q := range rows {
		rows[q] = []int{r.Intn(256), r.Intn(256), r.Intn(256), r.Intn(256)}
	}
	rows[0][0] = 0
	sizes := 0
	for range 100 {
		m := api.Machine{States: 5, Symbols: 4}
		for range m.States {
			var row []api.Rule
			for range m.Symbols {
				row = append(row, api.Rule{Write: r.Intn(4), Move: 2*r.Intn(2) - 1, Next: r.Intn(5)})
			}
			m.Rules = append(m.Rules, row)
		}
		if c, e := Close(m, rows, rows, api.MaxSet); e != api.ErrSize {
			continue
		} else if c.Set != nil {
			t.Fatal("a set")
		}
		sizes++
		m.Rules[4][3].Next = api.Stop
		if c, e := Close(m, rows, rows, 1); e != api.ErrNone && e != api.ErrSize || c.Set != nil {
			t.Error(len(c.Set), e)
		}
		if ok := stopsAtAll(m); ok {
			if _, e := Close(m, rows, rows, 1); e != api.ErrNone {
				t.Error(e)
			}
		}
		if sizes == 3 {
			return
		}
	}
	t.Error("no large set")
}

// stopsAtAll reports whether the run itself comes to a stopping rule, which then is in each set.
func stopsAtAll(m api.Machine) bool {
	c, _, _ := tape.Run(m, api.Config{}, 10000)
	return c.State == api.Stop
}

func TestReadFar(t *testing.T) {
	m := machine(t, "1RA1LA")
	// It counts blanks modulo 3 behind the first cell that is not blank.
	count := [][]int{{0, 1}, {2, 1}, {3, 1}, {1, 1}}
	c := api.Closed{Left: count, Right: count}
	for gap := range 12 {
		for _, far := range []int{0, 3 * 1000, 3 << 38} {
			n := gap + far
			want := 1 + n%3
			x, ok, e := Read(m, c, api.Config{Pos: n - api.MaxPos + 1, From: -api.MaxPos, Cells: []int{1}})
			if e != api.OK || ok || x != (element{want, 0, 0, 0}) {
				t.Error(n, x, ok, e)
			}
			x, ok, e = Read(m, c, api.Config{Pos: -n - 1, Cells: []int{1}})
			if e != api.OK || ok || x != (element{0, 0, 0, want}) {
				t.Error(n, x, ok, e)
			}
		}
	}
	// The lists may be in any order, and contain what is no edge.
	c.LeftEdges = []edge{{7, 7}, {2, 0}, {0, 1}, {1, 0}, {1, 0}, {0, 0}}
	c.RightEdges = []edge{{0, 0}}
	c.Set = []element{{9, 9, 9, 9}, {3, 0, 1, 0}, {0, 0, 0, 0}}
	k := api.Config{Pos: 3, Cells: []int{1, 0, 0, 1}}
	if x, ok, e := Read(m, c, k); e != api.OK || !ok || x != (element{3, 0, 1, 0}) {
		t.Error(x, ok, e)
	}
	c.LeftEdges = c.LeftEdges[:5]
	if _, ok, _ := Read(m, c, k); ok {
		t.Error("an edge is missing")
	}
	if x, ok, e := Read(m, api.Closed{Left: count, Right: count}, api.Config{Pos: 5}); e != api.OK || ok || x != (element{}) {
		t.Error(x, ok, e)
	}
}

func TestReadFromAfar(t *testing.T) {
	m := machine(t, "1RA1LA2RA")
	// The state is the last symbol but one that was read, and the last one.
	rows := make([][]int, 9)
	for q := range rows {
		rows[q] = []int{q % 3 * 3, q%3*3 + 1, q%3*3 + 2}
	}
	c := api.Closed{Left: rows, Right: rows}
	k := api.Config{Pos: 7, From: 4, Cells: []int{1, 2, 1, 0, 2, 1, 2}}
	if x, _, e := Read(m, c, k); e != api.OK || x != (element{2*3 + 1, 0, 0, 1*3 + 2}) {
		t.Error(x, e)
	}
}

func TestInvalid(t *testing.T) {
	m := machine(t, "1RA1LA")
	if ok, e := Check(api.Machine{}, api.Closed{}); ok || e != api.ErrForm {
		t.Error(e)
	}
	for _, rows := range [][][]int{nil, {{1, 0}, {0, 0}}, {{0}}, {{0, 0, 0}}, {{0, 2}}} {
		_, e1 := Close(m, rows, one(2), 0)
		_, e2 := Close(m, one(2), rows, 0)
		_, _, e3 := Read(m, api.Closed{Left: rows, Right: one(2)}, api.Config{})
		_, _, e4 := Read(m, api.Closed{Left: one(2), Right: rows}, api.Config{})
		if e1 != api.ErrForm || e2 != api.ErrForm || e3 != api.ErrForm || e4 != api.ErrForm {
			t.Error(rows, e1, e2, e3, e4)
		}
	}
	if _, e := Close(api.Machine{}, one(2), one(2), 1); e != api.ErrForm {
		t.Error(e)
	}
	for _, most := range []int{0, -1, api.MaxSet + 1} {
		if _, e := Close(m, one(2), one(2), most); e != api.ErrArg {
			t.Error(most, e)
		}
	}
	c := api.Closed{Left: one(2), Right: one(2)}
	for _, k := range []api.Config{{State: api.Stop}, {State: 1}, {From: 1}, {Cells: []int{2}}} {
		if x, ok, e := Read(m, c, k); e != api.ErrForm || ok || x != (element{}) {
			t.Error(k, e)
		}
	}
	if _, _, e := Read(api.Machine{}, c, api.Config{}); e != api.ErrForm {
		t.Error(e)
	}
}

func TestArgumentsAreKept(t *testing.T) {
	left, right := one(2), one(2)
	c, _ := Close(machine(t, "1RA1LA"), left, right, 9)
	c.Left[0][0], c.Right[0][1] = 7, 7
	if left[0][0] != 0 || right[0][1] != 0 {
		t.Error(left, right)
	}
}
