package back

import (
	"math"
	"math/rand"
	"reflect"
	"slices"
	"testing"

	"standstill/api"
	"standstill/tape"
)

func machine(t *testing.T, s string) api.Machine {
	t.Helper()
	m, e := tape.Parse(s)
	if e != api.OK {
		t.Fatalf("%q: %d", s, e)
	}
	return m
}

func anyMachine(r *rand.Rand) api.Machine {
	m := api.Machine{States: 1 + r.Intn(4), Symbols: 2 + r.Intn(2)}
	for s := 0; s < m.States; s++ {
		var row []api.Rule
		for x := 0; x < m.Symbols; x++ {
			rule := api.Rule{Write: r.Intn(m.Symbols), Move: 2*r.Intn(2) - 1, Next: r.Intn(m.States)}
			if r.Intn(8) == 0 {
				rule.Next = api.Stop
			}
			row = append(row, rule)
		}
		m.Rules = append(m.Rules, row)
	}
	return m
}

func same(a, b api.Partial) bool {
	return a.State == b.State && a.Head == b.Head && slices.Equal(a.Cells, b.Cells)
}

func matches(p api.Partial, c api.Config) bool {
	if p.State != c.State {
		return false
	}
	for i, x := range p.Cells {
		if tape.Read(c, c.Pos+i-p.Head) != x {
			return false
		}
	}
	return true
}

func TestExamples(t *testing.T) {
	if level, e := Level(machine(t, "1RA1RA"), 0); e != api.OK || len(level) != 0 {
		t.Error(level, e)
	}
	m := machine(t, "0RB1RZ_0LA1RZ")
	want := [][]api.Partial{
		{{State: 0, Cells: []int{1}}, {State: 1, Cells: []int{1}}},
		{{State: 0, Cells: []int{0, 1}}, {State: 1, Head: 1, Cells: []int{1, 0}}},
	}
	for k, list := range want {
		if level, e := Level(m, k); e != api.OK || !slices.EqualFunc(level, list, same) {
			t.Error(level, e)
		}
	}
}

// TestLevels compares each level with the definition: in all contexts of k + 1 cells to both sides, what an element matches stops in k + 1 steps, and the other way round.
func TestLevels(t *testing.T) {
	r := rand.New(rand.NewSource(1))
	for i := 0; i < 60; i++ {
		m := anyMachine(r)
		for k := 0; k <= 2; k++ {
			level, e := Level(m, k)
			if e != api.OK {
				t.Fatal(e)
			}
			if !slices.IsSortedFunc(level, compare) {
				t.Fatalf("%v: level %d is %v", m, k, level)
			}
			for j := 1; j < len(level); j++ {
				if same(level[j-1], level[j]) {
					t.Fatalf("%v: twice %v", m, level[j])
				}
			}
			for j := 0; j < 200; j++ {
				c := anyConfig(r, m, k+2)
				after, steps, _ := tape.Run(m, c, k+1)
				stops := after.State == api.Stop && steps == k+1
				if met := slices.ContainsFunc(level, func(p api.Partial) bool { return matches(p, c) }); met != stops {
					t.Fatalf("%v: %v in level %d %v", m, c, k, level)
				}
			}
		}
	}
}

func anyConfig(r *rand.Rand, m api.Machine, n int) api.Config {
	c := api.Config{State: r.Intn(m.States), From: -n}
	for range 2*n + 1 {
		c.Cells = append(c.Cells, r.Intn(m.Symbols))
	}
	c.Cells[0], c.Cells[2*n] = 1, 1
	return c
}

func TestMatchesAtTheEnd(t *testing.T) {
	r := rand.New(rand.NewSource(2))
	tested := 0
	for i := 0; i < 400; i++ {
		m := anyMachine(r)
		c := anyConfig(r, m, 5)
		after, n, _ := tape.Run(m, c, 60)
		if after.State != api.Stop {
			continue
		}
		for k := 0; k < n; k++ {
			level, e := Level(m, k)
			if e == api.ErrSize {
				break
			}
			before, _, _ := tape.Run(m, c, n-k-1)
			if !slices.ContainsFunc(level, func(p api.Partial) bool { return matches(p, before) }) {
				t.Fatalf("%v: %v is not in level %d", m, before, k)
			}
			tested++
		}
	}
	if tested < 100 {
		t.Error(tested)
	}
}

func TestMirror(t *testing.T) {
	r := rand.New(rand.NewSource(3))
	for i := 0; i < 200; i++ {
		m := anyMachine(r)
		other, _ := tape.Mirror(m)
		k := r.Intn(5)
		a, e1 := Level(m, k)
		b, e2 := Level(other, k)
		if e1 != e2 || len(a) != len(b) {
			t.Fatal(a, b)
		}
		for _, p := range a {
			p.Head = len(p.Cells) - 1 - p.Head
			slices.Reverse(p.Cells)
			if !slices.ContainsFunc(b, func(q api.Partial) bool { return same(p, q) }) {
				t.Fatalf("%v: %v is missing", m, p)
			}
		}
	}
}

func TestChecks(t *testing.T) {
	r := rand.New(rand.NewSource(4))
	found := 0
	for i := 0; i < 250; i++ {
		m := anyMachine(r)
		least := -1
		for k := 0; k <= 10; k++ {
			level, e1 := Level(m, k)
			ok, e2 := Check(m, k)
			after, _, _ := tape.Run(m, api.Config{}, k)
			if e1 != e2 || ok != (e1 == api.OK && len(level) == 0 && after.State != api.Stop) {
				t.Fatalf("%v: %v, %d", m, ok, e2)
			}
			if ok && least < 0 {
				least = k
			}
			if more, e := Level(m, k+1); e1 == api.OK && len(level) == 0 && (e != api.OK || len(more) > 0) {
				t.Fatalf("%v: level %d is empty, but not the next one", m, k)
			}
		}
		k, e := Find(m, 10)
		if least < 0 && (e != api.ErrNone || k != 0) || least >= 0 && (e != api.OK || k != least) {
			t.Fatalf("%v: %d, %d, want %d", m, k, e, least)
		}
		if least < 0 {
			continue
		}
		found++
		if after, _, _ := tape.Run(m, api.Config{}, 2000); after.State == api.Stop {
			t.Fatalf("%v stops", m)
		}
		if _, e := Find(m, least-1); least > 0 && e != api.ErrNone {
			t.Fatal(e)
		}
	}
	if found < 10 {
		t.Error(found)
	}
}

func TestStopsThoughLevelsAreEmpty(t *testing.T) {
	// It stops in its first step, and nothing leads to that.
	m := machine(t, "1RZ1RB_1RB1RB")
	if level, e := Level(m, 1); e != api.OK || len(level) != 0 {
		t.Error(level, e)
	}
	if ok, e := Check(m, 1); ok || e != api.OK {
		t.Error(ok, e)
	}
	if k, e := Find(m, 50); e != api.ErrNone || k != 0 {
		t.Error(k, e)
	}
}

func TestSize(t *testing.T) {
	// Each level has more than twice as many elements as the one before.
	m := machine(t, "0RA1RA2RA1RZ_0RA1RA2RA3RA")
	sizes := 0
	for k := 0; k <= api.MaxDepth; k++ {
		level, e := Level(m, k)
		ok, f := Check(m, k)
		if e != f || e != api.OK && (level != nil || ok) {
			t.Fatal(k, e, f)
		}
		if e == api.ErrSize {
			sizes++
		} else if len(level) > api.MaxPartial || sizes > 0 {
			t.Fatal(k, len(level), e)
		}
	}
	if sizes == 0 {
		t.Error("never too large")
	}
	if _, e := Find(m, api.MaxDepth); e != api.ErrNone {
		t.Error(e)
	}
}

func TestInvalid(t *testing.T) {
	m := machine(t, "1RA1RZ")
	for _, k := range []int{-1, api.MaxDepth + 1, math.MinInt, math.MaxInt} {
		level, e1 := Level(m, k)
		ok, e2 := Check(m, k)
		n, e3 := Find(m, k)
		if e1 != api.ErrArg || e2 != api.ErrArg || e3 != api.ErrArg || level != nil || ok || n != 0 {
			t.Error(k, e1, e2, e3)
		}
		_, e1 = Level(api.Machine{}, k)
		_, e2 = Check(api.Machine{}, k)
		_, e3 = Find(api.Machine{}, k)
		if !reflect.DeepEqual([]api.Errno{e1, e2, e3}, []api.Errno{api.ErrForm, api.ErrForm, api.ErrForm}) {
			t.Error(k, e1, e2, e3)
		}
	}
}
