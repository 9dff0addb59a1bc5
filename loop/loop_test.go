package loop

import (
	"math"
	"math/rand"
	"testing"

	"standstill/api"
	"standstill/tape"
)

func machine(t *testing.T, s string) api.Machine {
	t.Helper()
	m, e := tape.Parse(s)
	if e != api.OK {
		t.Fatalf("%q: %d", s, e)
	}
	return m
}

func anyMachine(r *rand.Rand) api.Machine {
	m := api.Machine{States: 1 + r.Intn(3), Symbols: 2 + r.Intn(2)}
	for s := 0; s < m.States; s++ {
		var row []api.Rule
		for x := 0; x < m.Symbols; x++ {
			rule := api.Rule{Write: r.Intn(m.Symbols), Move: 2*r.Intn(2) - 1, Next: r.Intn(m.States)}
			if r.Intn(12) == 0 {
				rule.Next = api.Stop
			}
			row = append(row, rule)
		}
		m.Rules = append(m.Rules, row)
	}
	return m
}

func runOf(t *testing.T, m api.Machine, n int) []api.Config {
	t.Helper()
	c := api.Config{}
	out := []api.Config{c}
	for len(out) <= n && c.State != api.Stop {
		var e api.Errno
		if c, e = tape.Step(m, c); e != api.OK {
			t.Fatal(e)
		}
		out = append(out, c)
	}
	return out
}

// slow looks at all cells, as the definition of a loop says.
func slow(run []api.Config, a, b, side int) bool {
	if b >= len(run) || run[b].State == api.Stop || run[a].State != run[b].State {
		return false
	}
	d := (run[b].Pos - run[a].Pos) * side
	m := run[a].Pos * side
	for _, c := range run[a : b+1] {
		m = min(m, c.Pos*side)
	}
	for x := m; x < m+2*len(run)+2; x++ {
		if tape.Read(run[a], x*side) != tape.Read(run[b], (x+d)*side) {
			return false
		}
	}
	return d >= 0
}

func mustCheck(t *testing.T, m api.Machine, a, b int, right bool) bool {
	t.Helper()
	ok, e := Check(m, a, b, right)
	if e != api.OK {
		t.Fatal(e)
	}
	return ok
}

func TestExamples(t *testing.T) {
	m := machine(t, "1RA1RZ")
	if !mustCheck(t, m, 0, 1, true) || mustCheck(t, m, 0, 1, false) {
		t.Error("1RA1RZ")
	}
	m = machine(t, "0RB1RZ_0LA1RZ")
	if !mustCheck(t, m, 0, 2, true) || !mustCheck(t, m, 0, 2, false) || mustCheck(t, m, 0, 1, true) {
		t.Error("0RB1RZ_0LA1RZ")
	}
	if a, b, right, e := Find(m, 9); e != api.OK || a != 0 || b != 2 || !right {
		t.Error(a, b, right, e)
	}
}

func TestAgainstSlow(t *testing.T) {
	r := rand.New(rand.NewSource(1))
	found := 0
	for i := 0; i < 300; i++ {
		m := anyMachine(r)
		other, _ := tape.Mirror(m)
		const n = 24
		run := runOf(t, m, n)
		wantA, wantB, wantRight := -1, 0, false
		for b := 1; b <= n; b++ {
			for a := b - 1; a >= 0; a-- {
				for _, right := range []bool{true, false} {
					side := -1
					if right {
						side = 1
					}
					want := slow(run, a, b, side)
					if mustCheck(t, m, a, b, right) != want || mustCheck(t, other, a, b, !right) != want {
						t.Fatalf("%v: (%d, %d) %v", m, a, b, right)
					}
					if want && wantA < 0 {
						wantA, wantB, wantRight = a, b, right
					}
				}
			}
		}
		a, b, right, e := Find(m, n)
		if wantA < 0 {
			if e != api.ErrNone || a != 0 || b != 0 || right {
				t.Fatalf("%v: (%d, %d), %d", m, a, b, e)
			}
			continue
		}
		if e != api.OK || a != wantA || b != wantB || right != wantRight {
			t.Fatalf("%v: (%d, %d) %v, want (%d, %d) %v", m, a, b, right, wantA, wantB, wantRight)
		}
		found++
		checkFor(t, r, m, a, b, right)
	}
	if found < 50 {
		t.Error(found)
	}
}

// checkFor tests that a machine with a loop goes on for ever.
func checkFor(t *testing.T, r *rand.Rand, m api.Machine, a, b int, right bool) {
	t.Helper()
	i, j := r.Intn(40), 1+r.Intn(5)
	if !mustCheck(t, m, a+i, b+i, right) || !mustCheck(t, m, a, a+j*(b-a), right) {
		t.Fatalf("%v: (%d, %d) is a loop, but not again", m, a, b)
	}
	run := runOf(t, m, 300)
	if len(run) != 301 {
		t.Fatalf("%v stops", m)
	}
	for k, c := range run {
		pos, state, e := After(m, a, b, right, k)
		if e != api.OK || pos != c.Pos || state != c.State {
			t.Fatalf("%v, (%d, %d): %d, %d after %d steps, want %v", m, a, b, pos, state, k, c)
		}
	}
}

func TestFar(t *testing.T) {
	if pos, state, e := After(machine(t, "1RA1RZ"), 0, 1, true, api.MaxTotal); e != api.OK || pos != api.MaxTotal || state != 0 {
		t.Error(pos, state, e)
	}
	if pos, state, e := After(machine(t, "1LA1LZ"), 3, 900000, false, api.MaxTotal); e != api.OK || pos != -api.MaxTotal || state != 0 {
		t.Error(pos, state, e)
	}
	if pos, _, e := After(machine(t, "0RB1RZ_0LA1RZ"), 0, 2, false, api.MaxTotal-1); e != api.OK || pos != 1 {
		t.Error(pos, e)
	}
	// More cells than a configuration may have.
	if !mustCheck(t, machine(t, "1RA1RZ"), api.MaxSteps-1, api.MaxSteps, true) {
		t.Error("not a loop")
	}
}

func TestLongSearch(t *testing.T) {
	// A counter never loops.
	if a, b, right, e := Find(machine(t, "1RB0LA_1LA0RB"), api.MaxTrace); e == api.OK && !mustCheck(t, machine(t, "1RB0LA_1LA0RB"), a, b, right) {
		t.Error(a, b, right)
	}
	if _, _, _, e := Find(machine(t, "1RB1RZ_1LB0RC_1LC1LA"), api.MaxTrace); e != api.ErrNone {
		t.Error(e)
	}
}

func TestInvalid(t *testing.T) {
	m := machine(t, "1RA1RZ")
	for _, p := range [][2]int{{-1, 1}, {1, 1}, {2, 1}, {0, api.MaxSteps + 1}, {math.MinInt, math.MaxInt}} {
		ok, e1 := Check(m, p[0], p[1], true)
		_, _, e2 := After(m, p[0], p[1], true, -1)
		_, f1 := Check(api.Machine{}, p[0], p[1], true)
		_, _, f2 := After(api.Machine{}, p[0], p[1], true, 1)
		if ok || e1 != api.ErrArg || e2 != api.ErrArg || f1 != api.ErrForm || f2 != api.ErrForm {
			t.Error(p, e1, e2, f1, f2)
		}
	}
	for _, k := range []int{-1, api.MaxTotal + 1} {
		if _, _, e := After(m, 0, 1, true, k); e != api.ErrArg {
			t.Error(k, e)
		}
	}
	if pos, state, e := After(m, 0, 1, false, 5); e != api.ErrNone || pos != 0 || state != 0 {
		t.Error(pos, state, e)
	}
	for _, n := range []int{0, -1, api.MaxTrace + 1} {
		if _, _, _, e := Find(m, n); e != api.ErrArg {
			t.Error(n, e)
		}
	}
	if _, _, _, e := Find(api.Machine{}, 0); e != api.ErrForm {
		t.Error(e)
	}
	// It has stopped after b steps.
	stop := machine(t, "0RA0RZ")
	stop.Rules[0][0].Next = api.Stop
	if ok, e := Check(stop, 0, 1, true); ok || e != api.OK {
		t.Error(ok, e)
	}
	if _, _, _, e := Find(stop, 5); e != api.ErrNone {
		t.Error(e)
	}
}
