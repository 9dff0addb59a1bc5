package block

import (
	"math"
	"math/rand"
	"reflect"
	"slices"
	"testing"

	"standstill/api"
	"standstill/tape"
)

func machine(t *testing.T, s string) api.Machine {
	t.Helper()
	m, e := tape.Parse(s)
	if e != api.OK {
		t.Fatalf("%q: %d", s, e)
	}
	return m
}

func anyMachine(r *rand.Rand) api.Machine {
	m := api.Machine{States: 1 + r.Intn(4), Symbols: 2 + r.Intn(3)}
	for s := 0; s < m.States; s++ {
		var row []api.Rule
		for x := 0; x < m.Symbols; x++ {
			rule := api.Rule{Write: r.Intn(m.Symbols), Move: 2*r.Intn(2) - 1, Next: r.Intn(m.States)}
			if r.Intn(15) == 0 {
				rule.Next = api.Stop
			}
			row = append(row, rule)
		}
		m.Rules = append(m.Rules, row)
	}
	return m
}

func anyWord(r *rand.Rand, m api.Machine, k int) []int {
	var w []int
	for range k {
		w = append(w, r.Intn(m.Symbols))
	}
	return w
}

func same(a, b api.Exit) bool {
	return a.Kind == b.Kind && a.State == b.State && a.Steps == b.Steps && a.Pos == b.Pos && slices.Equal(a.Word, b.Word)
}

// slow crosses without looking for a cycle: after so many steps there must have been one.
func slow(m api.Machine, state, p int, w []int) api.Exit {
	x := api.Exit{State: state, Pos: p, Word: slices.Clone(w)}
	most := m.States * len(w)
	for range w {
		most *= m.Symbols
	}
	for x.Steps <= most {
		r := m.Rules[x.State][x.Word[x.Pos]]
		x.Word[x.Pos] = r.Write
		x.Pos, x.State, x.Steps = x.Pos+r.Move, r.Next, x.Steps+1
		switch {
		case x.State == api.Stop:
			x.Kind = api.ExitStop
			return x
		case x.Pos < 0:
			x.Kind = api.ExitLeft
			return x
		case x.Pos == len(w):
			x.Kind = api.ExitRight
			return x
		}
	}
	return api.Exit{Kind: api.ExitNever}
}

func TestExamples(t *testing.T) {
	x, e := Cross(machine(t, "1RB1LB_1LA1RZ"), 0, 0, []int{0, 0})
	if e != api.OK || !same(x, api.Exit{Kind: api.ExitLeft, State: 1, Steps: 3, Pos: -1, Word: []int{1, 1}}) {
		t.Error(x, e)
	}
	x, e = Cross(machine(t, "0RB1RZ_0LA1RZ"), 0, 0, []int{0, 0})
	if e != api.OK || !same(x, api.Exit{Kind: api.ExitNever}) {
		t.Error(x, e)
	}
	// It stops by the step that leaves the block.
	x, e = Cross(machine(t, "1RZ1RZ"), 0, 0, []int{0})
	if e != api.OK || !same(x, api.Exit{Kind: api.ExitStop, State: api.Stop, Steps: 1, Pos: 1, Word: []int{1}}) {
		t.Error(x, e)
	}
}

func TestCrossAgainstSteps(t *testing.T) {
	r := rand.New(rand.NewSource(1))
	kinds := map[int]int{}
	for i := 0; i < 3000; i++ {
		m := anyMachine(r)
		k := 1 + r.Intn(api.MaxBlock)
		w := anyWord(r, m, k)
		state, p := r.Intn(m.States), r.Intn(k)
		before := slices.Clone(w)
		x, e := Cross(m, state, p, w)
		if want := slow(m, state, p, w); e != api.OK || !same(x, want) || !slices.Equal(w, before) {
			t.Fatalf("%v, %d, %d, %v: %v, want %v", m, state, p, w, x, want)
		}
		kinds[x.Kind]++
		other, _ := tape.Mirror(m)
		slices.Reverse(w)
		y, _ := Cross(other, state, k-1-p, w)
		if !same(x, mirrored(y, k)) {
			t.Fatalf("%v, %d, %d, %v: %v, mirrored %v", m, state, p, w, x, y)
		}
	}
	if len(kinds) != 4 {
		t.Error(kinds)
	}
}

func mirrored(x api.Exit, k int) api.Exit {
	switch x.Kind {
	case api.ExitNever:
		return x
	case api.ExitLeft:
		x.Kind = api.ExitRight
	case api.ExitRight:
		x.Kind = api.ExitLeft
	}
	x.Pos = k - 1 - x.Pos
	slices.Reverse(x.Word)
	return x
}

// inParts crosses a block by crossings of its two parts.
func inParts(m api.Machine, state, p int, w []int, k int) api.Exit {
	x := api.Exit{State: state, Pos: p, Word: slices.Clone(w)}
	for range 3000 {
		from, to := 0, k
		if x.Pos >= k {
			from, to = k, len(w)
		}
		y, _ := Cross(m, x.State, x.Pos-from, x.Word[from:to])
		if y.Kind == api.ExitNever {
			return y
		}
		copy(x.Word[from:to], y.Word)
		x.State, x.Pos, x.Steps = y.State, from+y.Pos, x.Steps+y.Steps
		if x.Kind = y.Kind; y.Kind == api.ExitStop || x.Pos < 0 || x.Pos == len(w) {
			return x
		}
	}
	return api.Exit{Kind: api.ExitNever}
}

func TestParts(t *testing.T) {
	r := rand.New(rand.NewSource(2))
	for i := 0; i < 2000; i++ {
		m := anyMachine(r)
		n := 2 + r.Intn(3)
		w := anyWord(r, m, n)
		state, p := r.Intn(m.States), r.Intn(n)
		x, _ := Cross(m, state, p, w)
		if y := inParts(m, state, p, w, 1+r.Intn(n-1)); !same(x, y) {
			t.Fatalf("%v, %d, %d, %v: %v, in parts %v", m, state, p, w, x, y)
		}
	}
}

func TestRunAgainstSteps(t *testing.T) {
	r := rand.New(rand.NewSource(3))
	kinds := map[int]int{}
	for i := 0; i < 1500; i++ {
		m := anyMachine(r)
		k, n := 1+r.Intn(api.MaxBlock), r.Intn(30)
		c, done, steps, kind, e := Run(m, k, n)
		want, taken, _ := tape.Run(m, api.Config{}, steps)
		if e != api.OK || taken != steps || c.State != want.State || c.Pos != want.Pos || c.From != want.From || !slices.Equal(c.Cells, want.Cells) {
			t.Fatalf("%v, %d, %d: %v after %d steps, want %v", m, k, n, c, steps, want)
		}
		if done < n && kind != api.ExitStop && kind != api.ExitNever || done > n || (kind == api.ExitStop) != (c.State == api.Stop) {
			t.Fatalf("%v, %d, %d: %d crossings, kind %d", m, k, n, done, kind)
		}
		if k == 1 && steps != done {
			t.Fatalf("%v: %d crossings of one cell, %d steps", m, done, steps)
		}
		if kind == api.ExitNever {
			if after, _, _ := tape.Run(m, api.Config{}, 20000); after.State == api.Stop {
				t.Fatalf("%v stops", m)
			}
		}
		kinds[kind]++
	}
	if len(kinds) != 4 {
		t.Error(kinds)
	}
}

func TestRunNone(t *testing.T) {
	c, done, steps, kind, e := Run(machine(t, "1RB1LB_1LA1RZ"), 2, 0)
	if e != api.OK || done != 0 || steps != 0 || kind != 0 || c.State != 0 {
		t.Error(c, done, steps, kind, e)
	}
	c, done, steps, kind, e = Run(machine(t, "0RB1RZ_0LA1RZ"), 2, 9)
	if e != api.OK || done != 1 || steps != 0 || kind != api.ExitNever || c.State != 0 || c.Pos != 0 {
		t.Error(c, done, steps, kind, e)
	}
	c, done, steps, kind, e = Run(machine(t, "1LA1LA"), 6, 10000)
	if e != api.OK || done != 10000 || steps != 1+9999*6 || kind != api.ExitLeft || len(c.Cells) != steps {
		t.Error(done, steps, kind, e)
	}
}

func TestTable(t *testing.T) {
	m := machine(t, "1RB2LA1RZ_2LA1RB0RA")
	for k := 1; k <= 3; k++ {
		for _, right := range []bool{false, true} {
			list, e := Table(m, k, right)
			if e != api.OK {
				t.Fatal(e)
			}
			i := 0
			for state := range m.States {
				for number := range []int{1, 3, 9, 27}[k] {
					w := make([]int, k)
					for j := k - 1; j >= 0; j-- {
						w[j] = number % 3
						number /= 3
					}
					p := 0
					if right {
						p = k - 1
					}
					if x, _ := Cross(m, state, p, w); !same(x, list[i]) {
						t.Fatalf("%d %v: %v, want %v", k, right, list[i], x)
					}
					i++
				}
			}
			if i != len(list) {
				t.Error(i, len(list))
			}
		}
	}
}

func TestInvalid(t *testing.T) {
	m := machine(t, "1RB1LB_1LA1RZ")
	good := []int{0, 1}
	cases := []struct {
		state, p int
		w        []int
	}{
		{-1, 0, good}, {2, 0, good}, {0, -1, good}, {0, 2, good}, {0, 0, nil}, {0, 0, make([]int, 7)},
		{0, 0, []int{2}}, {0, 0, []int{-1}}, {0, math.MaxInt, good}, {math.MinInt, 0, good},
	}
	for _, c := range cases {
		if x, e := Cross(m, c.state, c.p, c.w); e != api.ErrArg || !reflect.DeepEqual(x, api.Exit{}) {
			t.Errorf("%v: %v, %d", c, x, e)
		}
		if _, e := Cross(api.Machine{}, c.state, c.p, c.w); e != api.ErrForm {
			t.Error(c, e)
		}
	}
	for _, c := range [][2]int{{0, 1}, {7, 1}, {1, -1}, {1, 10001}} {
		if _, _, _, _, e := Run(m, c[0], c[1]); e != api.ErrArg {
			t.Error(c, e)
		}
		if _, _, _, _, e := Run(api.Machine{}, c[0], c[1]); e != api.ErrForm {
			t.Error(c, e)
		}
	}
	for _, k := range []int{0, 4, -1} {
		if _, e := Table(m, k, true); e != api.ErrArg {
			t.Error(k, e)
		}
		if _, e := Table(api.Machine{}, k, true); e != api.ErrForm {
			t.Error(k, e)
		}
	}
}
