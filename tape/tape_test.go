package tape

import (
	"math"
	"math/rand"
	"reflect"
	"slices"
	"testing"

	"standstill/api"
)

const six = "1RB1LB_1LA1RZ"

func machine(t *testing.T, s string) api.Machine {
	t.Helper()
	m, e := Parse(s)
	if e != api.OK {
		t.Fatalf("%q: %d", s, e)
	}
	return m
}

// anyMachine returns a machine; about a tenth of its rules stop.
func anyMachine(r *rand.Rand) api.Machine {
	m := api.Machine{States: 1 + r.Intn(api.MaxStates), Symbols: 2 + r.Intn(api.MaxSymbols-1)}
	for s := 0; s < m.States; s++ {
		var row []api.Rule
		for x := 0; x < m.Symbols; x++ {
			rule := api.Rule{Write: r.Intn(m.Symbols), Move: 2*r.Intn(2) - 1, Next: r.Intn(m.States)}
			if r.Intn(10) == 0 {
				rule.Next = api.Stop
			}
			row = append(row, rule)
		}
		m.Rules = append(m.Rules, row)
	}
	return m
}

func anyConfig(r *rand.Rand, m api.Machine) api.Config {
	c := api.Config{State: r.Intn(m.States), Pos: r.Intn(20) - 10, From: r.Intn(20) - 10}
	for i := r.Intn(10); i > 0; i-- {
		c.Cells = append(c.Cells, r.Intn(m.Symbols))
	}
	return trimmed(c)
}

func trimmed(c api.Config) api.Config {
	for len(c.Cells) > 0 && c.Cells[0] == 0 {
		c.Cells = c.Cells[1:]
		c.From++
	}
	for len(c.Cells) > 0 && c.Cells[len(c.Cells)-1] == 0 {
		c.Cells = c.Cells[:len(c.Cells)-1]
	}
	if len(c.Cells) == 0 {
		c.From, c.Cells = 0, nil
	}
	return c
}

func same(a, b api.Config) bool {
	return a.State == b.State && a.Pos == b.Pos && a.From == b.From && slices.Equal(a.Cells, b.Cells)
}

// slowStep does a step with a map of cells.
func slowStep(m api.Machine, c api.Config) api.Config {
	cells := map[int]int{}
	low, high := min(c.From, c.Pos), max(c.From+len(c.Cells), c.Pos)
	for i, x := range c.Cells {
		cells[c.From+i] = x
	}
	r := m.Rules[c.State][cells[c.Pos]]
	cells[c.Pos] = r.Write
	out := api.Config{State: r.Next, Pos: c.Pos + r.Move, From: low}
	for p := low; p <= high; p++ {
		out.Cells = append(out.Cells, cells[p])
	}
	return trimmed(out)
}

func mustRun(t *testing.T, m api.Machine, c api.Config, n int) (api.Config, int) {
	t.Helper()
	out, k, e := Run(m, c, n)
	if e != api.OK {
		t.Fatalf("run: %d", e)
	}
	return out, k
}

func TestRunAgainstSlowSteps(t *testing.T) {
	r := rand.New(rand.NewSource(1))
	for i := 0; i < 500; i++ {
		m := anyMachine(r)
		c := anyConfig(r, m)
		slow, done := c, 0
		for n := 0; n < 60; n++ {
			got, k := mustRun(t, m, c, n)
			if !same(got, slow) || k != done || !Fits(m, got) {
				t.Fatalf("%v from %v, %d steps: %v, want %v", m, c, n, got, slow)
			}
			if slow.State != api.Stop {
				next, e := Step(m, slow)
				slow = slowStep(m, slow)
				done++
				if e != api.OK || !same(next, slow) {
					t.Fatalf("step: %v, want %v", next, slow)
				}
			}
		}
	}
}

func TestParts(t *testing.T) {
	r := rand.New(rand.NewSource(2))
	for i := 0; i < 300; i++ {
		m := anyMachine(r)
		c := anyConfig(r, m)
		n, k := r.Intn(100), r.Intn(100)
		first, a := mustRun(t, m, c, n)
		second, b := mustRun(t, m, first, k)
		all, ab := mustRun(t, m, c, n+k)
		if !same(second, all) || a+b != ab {
			t.Fatalf("%v: %v and %v", m, second, all)
		}
	}
}

func TestMirrorNamesPlace(t *testing.T) {
	r := rand.New(rand.NewSource(3))
	for i := 0; i < 300; i++ {
		m := anyMachine(r)
		c := anyConfig(r, m)
		n := r.Intn(100)
		after, k := mustRun(t, m, c, n)

		mm, _ := Mirror(m)
		cc, _ := Reflect(c)
		got, kk := mustRun(t, mm, cc, n)
		if want, _ := Reflect(after); !same(got, want) || k != kk {
			t.Fatalf("mirror %v: %v, want %v", m, got, want)
		}

		states, symbols := names(r, m.States), names(r, m.Symbols)
		rm, e1 := Rename(m, states, symbols)
		rc, e2 := Renamed(c, states, symbols)
		if e1 != api.OK || e2 != api.OK {
			t.Fatal(e1, e2)
		}
		got, kk = mustRun(t, rm, rc, n)
		if want, _ := Renamed(after, states, symbols); !same(got, want) || k != kk {
			t.Fatalf("rename %v: %v, want %v", m, got, want)
		}

		by := r.Intn(100) - 50
		sc, _ := Shift(c, by)
		got, kk = mustRun(t, m, sc, n)
		if want, _ := Shift(after, by); !same(got, want) || k != kk {
			t.Fatalf("shift %v: %v, want %v", m, got, want)
		}
	}
}

func names(r *rand.Rand, n int) []int {
	out := []int{0}
	for _, x := range r.Perm(n - 1) {
		out = append(out, x+1)
	}
	return out
}

func TestNear(t *testing.T) {
	r := rand.New(rand.NewSource(4))
	for i := 0; i < 300; i++ {
		m := anyMachine(r)
		c := anyConfig(r, m)
		n := 1 + r.Intn(4)
		other := c
		other.Cells = slices.Clone(c.Cells)
		for j := range other.Cells {
			if p := c.From + j; p < c.Pos-n || p > c.Pos+n {
				other.Cells[j] = 1 + r.Intn(m.Symbols-1)
			}
		}
		other = trimmed(other)
		a, k := mustRun(t, m, c, n)
		b, kk := mustRun(t, m, other, n)
		if k != kk || a.State != b.State || a.Pos != b.Pos {
			t.Fatalf("%v: %v and %v", m, a, b)
		}
		for p := -40; p < 40; p++ {
			near := p >= c.Pos-n && p <= c.Pos+n
			if near && Read(a, p) != Read(b, p) || !near && Read(other, p) != Read(b, p) {
				t.Fatalf("%v: cell %d of %v and %v", m, p, a, b)
			}
		}
	}
}

func TestTexts(t *testing.T) {
	r := rand.New(rand.NewSource(5))
	for i := 0; i < 300; i++ {
		m := anyMachine(r)
		s, e := Text(m)
		back, f := Parse(s)
		if e != api.OK || f != api.OK || !reflect.DeepEqual(m, back) {
			t.Fatalf("%v: %q, %v", m, s, back)
		}
		b := []byte(s)
		b[r.Intn(len(b))] = byte(r.Intn(128))
		if m, e := Parse(string(b)); e == api.OK {
			if again, _ := Text(m); again != string(b) {
				t.Fatalf("%q is read as %q", b, again)
			}
		}
	}
	bad := []string{"", "_", "1RB", "1RZ1R@", "1RA1rA", "1RA1R[", "0RA", "1RA1RA_", "1RC1LB_1LA1RZ", "0RA1RA2RA3RA0RA",
		"0RA0RA_0RA0RA_0RA0RA_0RA0RA_0RA0RA_0RA0RA_0RA0RA", "0RA0RA_0RA0RA0RA", "/RA0RA", "0RA0Ra", " 0RA0RA", "0RA0RA\n"}
	for _, s := range bad {
		if m, e := Parse(s); e != api.ErrParse || !reflect.DeepEqual(m, api.Machine{}) {
			t.Errorf("%q: %v, %d", s, m, e)
		}
	}
}

func TestValid(t *testing.T) {
	good := machine(t, six)
	change := func(f func(m *api.Machine)) api.Machine {
		m := machine(t, six)
		f(&m)
		return m
	}
	bad := []api.Machine{
		{},
		change(func(m *api.Machine) { m.States = 3 }),
		change(func(m *api.Machine) { m.Symbols = 3 }),
		change(func(m *api.Machine) { m.Rules[0] = m.Rules[0][:1] }),
		change(func(m *api.Machine) { m.Rules[0][0].Write = 2 }),
		change(func(m *api.Machine) { m.Rules[0][0].Write = -1 }),
		change(func(m *api.Machine) { m.Rules[0][0].Move = 0 }),
		change(func(m *api.Machine) { m.Rules[0][0].Move = math.MinInt }),
		change(func(m *api.Machine) { m.Rules[0][0].Next = 2 }),
		change(func(m *api.Machine) { m.Rules[0][0].Next = -2 }),
		{States: 1, Symbols: 1, Rules: [][]api.Rule{{{Move: 1}}}},
	}
	if !Valid(good) {
		t.Error("not valid")
	}
	for _, m := range bad {
		_, e1 := Text(m)
		_, e2 := Step(m, api.Config{})
		_, _, e3 := Run(m, api.Config{}, -1)
		_, e4 := Mirror(m)
		_, e5 := Rename(m, nil, nil)
		if Valid(m) || Fits(m, api.Config{}) {
			t.Errorf("%v is valid", m)
		}
		for _, e := range []api.Errno{e1, e2, e3, e4, e5} {
			if e != api.ErrForm {
				t.Errorf("%v: %d", m, e)
			}
		}
	}
}

func TestFits(t *testing.T) {
	m := machine(t, six)
	good := []api.Config{
		{}, {State: api.Stop}, {Pos: api.MaxPos}, {Pos: -api.MaxPos}, {From: api.MaxPos, Cells: []int{1, 1}},
		{From: 5, Cells: []int{1, 0, 1}}, {Cells: slices.Repeat([]int{1}, api.MaxCells)},
	}
	bad := []api.Config{
		{State: 2}, {State: -2}, {Pos: api.MaxPos + 1}, {Pos: math.MinInt}, {From: 1}, {From: api.MaxPos + 1, Cells: []int{1}},
		{From: math.MinInt, Cells: []int{1}}, {Cells: []int{0, 1}}, {Cells: []int{1, 0}}, {Cells: []int{1, 2, 1}},
		{Cells: []int{1, -1, 1}}, {Cells: slices.Repeat([]int{1}, api.MaxCells+1)},
	}
	for _, c := range good {
		if !Fits(m, c) {
			t.Errorf("%v does not fit", c.From)
		}
	}
	for _, c := range bad {
		if _, e := Step(m, c); Fits(m, c) || e != api.ErrForm {
			t.Errorf("%v fits, %d", c.From, e)
		}
	}
}

func TestRead(t *testing.T) {
	c := api.Config{From: math.MinInt, Cells: []int{1, 2}}
	if Read(c, math.MinInt+1) != 2 || Read(c, math.MaxInt) != 0 || Read(c, 0) != 0 {
		t.Error("from the least position")
	}
	c.From = math.MaxInt
	if Read(c, math.MaxInt) != 1 || Read(c, math.MinInt) != 0 || Read(c, math.MinInt+2) != 0 {
		t.Error("from the greatest position")
	}
	if Read(api.Config{From: 3, Cells: []int{0, 7}}, 4) != 7 {
		t.Error("a configuration that is not valid")
	}
	if Ones(api.Config{Cells: []int{0, 7, 0, -1}}) != 2 {
		t.Error("ones")
	}
}

func TestLimits(t *testing.T) {
	right := machine(t, "1RA1RA")
	if _, e := Step(right, api.Config{Pos: api.MaxPos}); e != api.ErrSize {
		t.Error(e)
	}
	if c, k, e := Run(right, api.Config{}, api.MaxCells); e != api.OK || k != api.MaxCells || len(c.Cells) != api.MaxCells {
		t.Error(k, e)
	}
	if c, k, e := Run(right, api.Config{}, api.MaxCells+1); e != api.ErrSize || k != 0 || c.Pos != 0 || c.Cells != nil {
		t.Error(k, e)
	}
	if _, _, e := Run(right, api.Config{Cells: slices.Repeat([]int{1}, api.MaxCells)}, api.MaxCells); e != api.OK {
		t.Error(e)
	}
	// Far away from the head, one cell more is too many.
	if _, e := Step(right, api.Config{Pos: api.MaxPos - 1, From: -api.MaxPos, Cells: []int{1}}); e != api.ErrSize {
		t.Error(e)
	}
	// Without cells the head may be anywhere.
	blank := machine(t, "0RA1LZ")
	if c, k, e := Run(blank, api.Config{}, api.MaxSteps); e != api.OK || k != api.MaxSteps || c.Pos != k {
		t.Error(k, e)
	}
	// It erases the cells that it leaves behind, so that they never are too many.
	worm := machine(t, "1RB1RB_1LC0RA_0RA0RA")
	if c, _, e := Run(worm, api.Config{}, api.MaxSteps); e != api.OK || len(c.Cells) > 2 {
		t.Error(e, len(c.Cells))
	}
	// The last cell that From may name is erased while a further one remains.
	erase := machine(t, "0RA0LA")
	if _, e := Step(erase, api.Config{Pos: api.MaxPos, From: api.MaxPos, Cells: []int{1, 1}}); e != api.ErrSize {
		t.Error(e)
	}
	if c, e := Step(erase, api.Config{Pos: api.MaxPos, From: api.MaxPos, Cells: []int{1}}); e != api.OK || c.From != 0 {
		t.Error(c, e)
	}
	if _, _, e := Run(right, api.Config{}, api.MaxSteps+1); e != api.ErrArg {
		t.Error(e)
	}
	if c, k, e := Run(right, api.Config{State: api.Stop, Pos: 4}, 9); e != api.OK || k != 0 || c.Pos != 4 {
		t.Error(c, k, e)
	}
}

func TestShuttle(t *testing.T) {
	// The head erases and writes the first cell while the next one is far away: this must not take long.
	m := machine(t, "0RB1LC_1RA0LA_0RA1RB")
	c := api.Config{From: 0, Cells: append(append([]int{1}, make([]int, 60000)...), 1)}
	if _, _, e := Run(m, c, api.MaxSteps); e != api.OK && e != api.ErrSize {
		t.Error(e)
	}
}

func TestRefused(t *testing.T) {
	bad := api.Config{Cells: []int{4}}
	six := api.Config{State: 6}
	for _, c := range []api.Config{bad, six} {
		_, e1 := Reflect(c)
		_, e2 := Renamed(c, []int{0}, []int{0})
		_, e3 := Shift(c, 0)
		if e1 != api.ErrForm || e2 != api.ErrForm || e3 != api.ErrForm {
			t.Error(c, e1, e2, e3)
		}
	}
	if _, e := Reflect(api.Config{From: api.MaxPos, Cells: []int{1, 1}}); e != api.ErrArg {
		t.Error(e)
	}
	if c, e := Reflect(api.Config{Pos: 7}); e != api.OK || c.Pos != -7 || c.From != 0 {
		t.Error(c, e)
	}
	for _, by := range []int{math.MaxInt, math.MinInt, api.MaxPos + 1, -api.MaxPos - 1} {
		if _, e := Shift(api.Config{}, by); e != api.ErrArg {
			t.Error(by, e)
		}
	}
	if c, e := Shift(api.Config{Pos: -api.MaxPos}, 2*api.MaxPos); e != api.OK || c.Pos != api.MaxPos || c.From != 0 {
		t.Error(c, e)
	}
	m := machine(t, "0RA0RA0RA_0RA0RA0RA_0RA0RA0RB")
	for _, states := range [][]int{nil, {0}, {0, 1}, {1, 0, 2}, {0, 1, 1}, {0, 1, 3}, {0, -1, 2}, {0, 1, 2, 3}} {
		if _, e := Rename(m, states, []int{0, 1, 2}); e != api.ErrArg {
			t.Error(states, e)
		}
		if _, e := Rename(m, []int{0, 1, 2}, states); e != api.ErrArg {
			t.Error(states, e)
		}
	}
	c := api.Config{State: 2, Cells: []int{3}}
	for _, list := range [][2][]int{{nil, {0, 1, 2, 3}}, {{0, 1}, {0, 1, 2, 3}}, {{0, 1, 2}, {0, 1, 2}}, {{0, 1, 2}, {0, 1, 2, 3, 4}}, {{0, 1, 2, 3, 4, 5, 6}, {0, 1, 2, 3}}, {{2, 1, 0}, {0, 1, 2, 3}}} {
		if _, e := Renamed(c, list[0], list[1]); e != api.ErrArg {
			t.Error(list, e)
		}
	}
	if c, e := Renamed(api.Config{State: api.Stop, Cells: []int{2}}, []int{0}, []int{0, 2, 1}); e != api.OK || c.State != api.Stop || c.Cells[0] != 1 {
		t.Error(c, e)
	}
}

func TestArgumentsAreKept(t *testing.T) {
	m := machine(t, six)
	c := api.Config{Cells: []int{1, 0, 1}}
	Run(m, c, 5)
	after, _, _ := Run(m, c, 0)
	after.Cells[0] = 7
	shifted, _ := Shift(c, 0)
	shifted.Cells[0] = 7
	if !slices.Equal(c.Cells, []int{1, 0, 1}) {
		t.Error(c.Cells)
	}
}
