package leap

import (
	"math"
	"math/rand"
	"reflect"
	"slices"
	"testing"

	"standstill/api"
	"standstill/tape"
)

func machine(t *testing.T, s string) api.Machine {
	t.Helper()
	m, e := tape.Parse(s)
	if e != api.OK {
		t.Fatalf("%q: %d", s, e)
	}
	return m
}

func anyMachine(r *rand.Rand) api.Machine {
	m := api.Machine{States: 1 + r.Intn(4), Symbols: 2 + r.Intn(3)}
	for s := 0; s < m.States; s++ {
		var row []api.Rule
		for x := 0; x < m.Symbols; x++ {
			rule := api.Rule{Write: r.Intn(m.Symbols), Move: 2*r.Intn(2) - 1, Next: r.Intn(m.States)}
			if r.Intn(3) == 0 {
				rule.Next = s
			}
			if r.Intn(20) == 0 {
				rule.Next = api.Stop
			}
			row = append(row, rule)
		}
		m.Rules = append(m.Rules, row)
	}
	return m
}

// anyConfig returns a configuration with long runs.
func anyConfig(r *rand.Rand, m api.Machine) api.Config {
	c := api.Config{State: r.Intn(m.States), Pos: r.Intn(60) - 30, From: r.Intn(60) - 30}
	for i := r.Intn(6); i > 0; i-- {
		c.Cells = append(c.Cells, slices.Repeat([]int{r.Intn(m.Symbols)}, 1+r.Intn(8))...)
	}
	for len(c.Cells) > 0 && c.Cells[0] == 0 {
		c.Cells = c.Cells[1:]
	}
	for len(c.Cells) > 0 && c.Cells[len(c.Cells)-1] == 0 {
		c.Cells = c.Cells[:len(c.Cells)-1]
	}
	if len(c.Cells) == 0 {
		c.From = 0
	}
	return c
}

func same(a, b api.Config) bool {
	return a.State == b.State && a.Pos == b.Pos && a.From == b.From && slices.Equal(a.Cells, b.Cells)
}

func sameTape(a, b api.Tape) bool {
	return a.State == b.State && a.Pos == b.Pos && a.Symbol == b.Symbol && slices.Equal(a.Left, b.Left) && slices.Equal(a.Right, b.Right)
}

func TestThereAndBack(t *testing.T) {
	r := rand.New(rand.NewSource(1))
	for i := 0; i < 2000; i++ {
		m := anyMachine(r)
		c := anyConfig(r, m)
		x, e := From(m, c)
		if e != api.OK || !Fits(m, x) {
			t.Fatalf("%v: %v, %d", c, x, e)
		}
		back, e := To(m, x)
		if e != api.OK || !same(back, c) {
			t.Fatalf("%v: %v, %v, %d", c, x, back, e)
		}
		if again, e := From(m, back); e != api.OK || !sameTape(x, again) {
			t.Fatalf("%v: %v, %v", c, x, again)
		}
		n, e := Ones(x)
		if e != api.OK || n != tape.Ones(c) {
			t.Fatalf("%v: %d ones", c, n)
		}
	}
}

// wantedSteps returns the number of steps of a leap by looking at the cells; 0 for an endless machine.
func wantedSteps(m api.Machine, c api.Config) int {
	x := tape.Read(c, c.Pos)
	rule := m.Rules[c.State][x]
	k := 1
	if rule.Next != c.State {
		return 1
	}
	for tape.Read(c, c.Pos+k*rule.Move) == x {
		k++
		if k > 500 {
			return 0
		}
	}
	return k
}

func TestLeapsAgainstSteps(t *testing.T) {
	r := rand.New(rand.NewSource(2))
	for i := 0; i < 1500; i++ {
		m := anyMachine(r)
		c := anyConfig(r, m)
		first, _ := From(m, c)
		x, total, n := first, 0, 0
		for ; n < 30 && x.State != api.Stop; n++ {
			want := wantedSteps(m, c)
			next, steps, endless, e := Leap(m, x)
			if e != api.OK || steps != want || endless != (want == 0) || !Fits(m, next) {
				t.Fatalf("%v in %v: %v, %d steps, want %d", m, x, next, steps, want)
			}
			c, _, _ = tape.Run(m, c, steps)
			if got, _ := To(m, next); !same(got, c) || endless && !sameTape(next, x) {
				t.Fatalf("%v in %v: %v, want %v", m, x, next, c)
			}
			checkMirror(t, m, x, next, steps)
			total += steps
			x = next
			if endless {
				all, done, k, never, e := Leaps(m, first, n+1+r.Intn(5))
				if e != api.OK || !never || done != n || k != total || !sameTape(all, x) {
					t.Fatalf("%v from %v: %v, %d leaps, %d steps", m, first, all, done, k)
				}
				after, k, _ := tape.Run(m, c, 3000)
				if k != 3000 || after.State == api.Stop {
					t.Fatalf("%v stops", m)
				}
				break
			}
			all, done, k, never, e := Leaps(m, first, n+1)
			if e != api.OK || never || done != n+1 || k != total || !sameTape(all, x) {
				t.Fatalf("%v from %v: %v, %d leaps, %d steps", m, first, all, done, k)
			}
		}
		if x.State == api.Stop {
			all, done, k, never, e := Leaps(m, first, n+7)
			if e != api.OK || never || done != n || k != total || !sameTape(all, x) {
				t.Fatalf("%v from %v: %v, %d leaps, %d steps", m, first, all, done, k)
			}
		}
	}
}

func mirrored(x api.Tape) api.Tape {
	x.Left, x.Right, x.Pos = x.Right, x.Left, -x.Pos
	return x
}

func checkMirror(t *testing.T, m api.Machine, before, after api.Tape, steps int) {
	t.Helper()
	other, _ := tape.Mirror(m)
	got, k, _, e := Leap(other, mirrored(before))
	if e != api.OK || k != steps || !sameTape(got, mirrored(after)) {
		t.Fatalf("%v in %v: mirrored %v", m, before, got)
	}
}

func TestLongSlides(t *testing.T) {
	m := machine(t, "1RB1LB_1LA1RB")
	for _, count := range []int{999, 1000, 1 << 40, api.MaxTotal - 3} {
		x := api.Tape{State: 1, Symbol: 1, Left: []api.Run{{Symbol: 1, Count: 2}}, Right: []api.Run{{Symbol: 1, Count: count}}}
		after, steps, endless, e := Leap(m, x)
		want := api.Tape{State: 1, Pos: count + 1, Left: []api.Run{{Symbol: 1, Count: count + 3}}}
		if e != api.OK || endless || steps != count+1 || !sameTape(after, want) {
			t.Errorf("%d: %v, %d, %d", count, after, steps, e)
		}
	}
	x := api.Tape{State: 1, Symbol: 1, Left: []api.Run{{Symbol: 1, Count: 2}}, Right: []api.Run{{Symbol: 1, Count: api.MaxTotal - 2}}}
	if after, steps, _, e := Leap(m, x); e != api.ErrSize || steps != 0 || !reflect.DeepEqual(after, api.Tape{}) {
		t.Error(after, steps, e)
	}
}

func TestEndless(t *testing.T) {
	m := machine(t, "1RA1RZ")
	after, steps, endless, e := Leap(m, api.Tape{})
	if e != api.OK || !endless || steps != 0 || !sameTape(after, api.Tape{}) {
		t.Error(after, steps, endless, e)
	}
	if _, done, steps, endless, e := Leaps(m, api.Tape{}, 0); e != api.OK || endless || done != 0 || steps != 0 {
		t.Error(done, steps, endless, e)
	}
	// The blanks end at a cell that is not blank.
	x := api.Tape{Right: []api.Run{{Symbol: 0, Count: 3}, {Symbol: 1, Count: 1}}}
	after, steps, endless, e = Leap(m, x)
	if e != api.OK || endless || steps != 4 || after.Symbol != 1 || len(after.Right) != 0 {
		t.Error(after, steps, endless, e)
	}
}

func TestLimits(t *testing.T) {
	right := machine(t, "1RB0RA_0RA1RB")
	if _, _, _, e := Leap(right, api.Tape{Pos: api.MaxTotal}); e != api.ErrSize {
		t.Error(e)
	}
	if _, _, _, e := Leap(right, api.Tape{Pos: api.MaxTotal - 1}); e != api.OK {
		t.Error(e)
	}
	var many []api.Run
	for i := range api.MaxRuns {
		many = append(many, api.Run{Symbol: (i + 1) % 2, Count: 1})
	}
	many[api.MaxRuns-1].Symbol = 2
	three := machine(t, "2RB0RA0RA_0RA1RB0RA")
	if _, _, _, e := Leap(three, api.Tape{Left: many}); e != api.ErrSize {
		t.Error(e)
	}
	if after, _, _, e := Leap(three, api.Tape{Left: many[1:]}); e != api.OK || len(after.Left) != api.MaxRuns {
		t.Error(e)
	}
	// More steps than a total may have: it erases two runs, one after the other.
	wipe := machine(t, "0RB0RA_0RB0RA")
	x := api.Tape{Pos: -api.MaxTotal, Symbol: 1, Right: []api.Run{{Symbol: 1, Count: api.MaxTotal}}}
	if _, steps, _, e := Leap(wipe, x); e != api.OK || steps != api.MaxTotal+1 {
		t.Error(steps, e)
	}
	if _, _, _, _, e := Leaps(wipe, x, 1); e != api.ErrSize {
		t.Error(e)
	}
	x.Right[0].Count--
	if _, done, steps, _, e := Leaps(wipe, x, 1); e != api.OK || steps != api.MaxTotal || done != 1 {
		t.Error(steps, e)
	}
	if _, _, _, _, e := Leaps(wipe, x, 2); e != api.ErrSize {
		t.Error(e)
	}
}

func TestManyLeaps(t *testing.T) {
	x, done, steps, endless, e := Leaps(machine(t, "1RB1LA_0LA1RB"), api.Tape{}, 2000)
	if e != api.OK || endless || done != 2000 {
		t.Fatal(done, endless, e)
	}
	c, _ := To(machine(t, "1RB1LA_0LA1RB"), x)
	want, k, _ := tape.Run(machine(t, "1RB1LA_0LA1RB"), api.Config{}, steps)
	if k != steps || !same(c, want) {
		t.Error(steps, k)
	}
}

func TestConversionLimits(t *testing.T) {
	m := machine(t, "1RB1LB_1LA1RZ")
	one := []api.Run{{Symbol: 1, Count: 1}}
	far := []api.Run{{Symbol: 0, Count: api.MaxTotal}, {Symbol: 1, Count: api.MaxTotal}, {Symbol: 0, Count: api.MaxTotal}, {Symbol: 1, Count: api.MaxTotal}}
	for len(far) < api.MaxRuns {
		far = append(far, far[:4]...)
	}
	bad := []api.Tape{
		{Pos: api.MaxPos + 1}, {Pos: -api.MaxTotal}, {Left: []api.Run{{Symbol: 1, Count: api.MaxCells + 1}}},
		{Symbol: 1, Left: []api.Run{{Symbol: 1, Count: api.MaxCells / 2}}, Right: []api.Run{{Symbol: 1, Count: api.MaxCells / 2}}},
		{Left: far}, {Right: far}, {Left: far, Right: far, Pos: -api.MaxTotal}, {Right: append([]api.Run{{Symbol: 0, Count: api.MaxPos}}, one...)},
		{Left: append([]api.Run{{Symbol: 0, Count: api.MaxPos}}, one...)},
	}
	for i, x := range bad {
		if c, e := To(m, x); e != api.ErrSize || len(c.Cells) > 0 {
			t.Errorf("tape %d: %d", i, e)
		}
	}
	x := api.Tape{Left: append([]api.Run{{Symbol: 0, Count: api.MaxPos - 1}}, one...)}
	if c, e := To(m, x); e != api.OK || c.From != -api.MaxPos || len(c.Cells) != 1 {
		t.Error(c, e)
	}
	if n, e := Ones(api.Tape{Left: []api.Run{{Symbol: 3, Count: api.MaxTotal}}}); e != api.OK || n != api.MaxTotal {
		t.Error(n, e)
	}
	if n, e := Ones(api.Tape{Symbol: 2, Left: []api.Run{{Symbol: 1, Count: api.MaxTotal}}}); e != api.ErrSize || n != 0 {
		t.Error(n, e)
	}
	if n, e := Ones(api.Tape{Left: far, Right: far}); e != api.ErrSize || n != 0 {
		t.Error(n, e)
	}
	var cells []int
	for i := range 2 * api.MaxRuns {
		cells = append(cells, 1-i%2)
	}
	cells = append(cells, 1)
	if _, e := From(m, api.Config{Cells: cells}); e != api.ErrSize {
		t.Error(e)
	}
	if x, e := From(m, api.Config{Pos: api.MaxRuns, Cells: cells}); e != api.OK || len(x.Left) != api.MaxRuns {
		t.Error(e, len(x.Left))
	}
}

func TestInvalid(t *testing.T) {
	m := machine(t, "1RB1LB_1LA1RZ")
	run := func(symbol, count int) []api.Run { return []api.Run{{Symbol: symbol, Count: count}} }
	bad := []api.Tape{
		{State: 2}, {State: -2}, {Symbol: 2}, {Symbol: -1}, {Pos: api.MaxTotal + 1}, {Pos: math.MinInt}, {Left: run(0, 1)}, {Right: run(0, 1)},
		{Left: run(1, 0)}, {Right: run(1, -1)}, {Right: run(1, api.MaxTotal+1)}, {Left: run(2, 1)}, {Left: run(-1, 1)},
		{Left: append(run(1, 1), run(1, 1)...)}, {Right: append(append(run(1, 1), run(0, 1)...), run(0, 1)...)},
	}
	var many []api.Run
	for i := range api.MaxRuns + 1 {
		many = append(many, api.Run{Symbol: (i + 1) % 2, Count: 1})
	}
	bad = append(bad, api.Tape{Left: many})
	for _, x := range bad {
		_, e1 := To(m, x)
		_, _, _, e2 := Leap(m, x)
		_, _, _, _, e3 := Leaps(m, x, -1)
		if Fits(m, x) || e1 != api.ErrForm || e2 != api.ErrForm || e3 != api.ErrForm {
			t.Errorf("%v: %d %d %d", x, e1, e2, e3)
		}
	}
	if _, e := Ones(api.Tape{State: 6}); e != api.ErrForm {
		t.Error(e)
	}
	if _, e := Ones(api.Tape{State: 5, Symbol: 3}); e != api.OK {
		t.Error(e)
	}
	if _, e := From(m, api.Config{State: 2}); e != api.ErrForm {
		t.Error(e)
	}
	if _, e := From(api.Machine{}, api.Config{}); e != api.ErrForm || Fits(api.Machine{}, api.Tape{}) {
		t.Error(e)
	}
	for _, n := range []int{-1, api.MaxSteps + 1} {
		if _, _, _, _, e := Leaps(m, api.Tape{}, n); e != api.ErrArg {
			t.Error(e)
		}
	}
	if _, _, _, e := Leap(m, api.Tape{State: api.Stop}); e != api.ErrState {
		t.Error(e)
	}
	if x, done, _, _, e := Leaps(m, api.Tape{State: api.Stop}, 5); e != api.OK || done != 0 || x.State != api.Stop {
		t.Error(x, e)
	}
}

func TestArgumentsAreKept(t *testing.T) {
	m := machine(t, "1RB1LB_1LA1RB")
	x := api.Tape{State: 1, Symbol: 1, Right: []api.Run{{Symbol: 1, Count: 3}, {Symbol: 0, Count: 2}, {Symbol: 1, Count: 1}}, Left: []api.Run{{Symbol: 1, Count: 4}}}
	after, _, _, _ := Leap(m, x)
	Leaps(m, x, 5)
	for i := range after.Right {
		after.Right[i].Count = 77
	}
	after.Left[0].Count = 77
	if x.Right[0].Count != 3 || x.Right[1].Count != 2 || x.Left[0].Count != 4 {
		t.Error(x)
	}
}
