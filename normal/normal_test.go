package normal

import (
	"math"
	"math/rand"
	"reflect"
	"testing"

	"standstill/api"
	"standstill/tape"
)

func machine(t *testing.T, s string) api.Machine {
	t.Helper()
	m, e := tape.Parse(s)
	if e != api.OK {
		t.Fatalf("%q: %d", s, e)
	}
	return m
}

func text(m api.Machine) string {
	s, _ := tape.Text(m)
	return s
}

func anyMachine(r *rand.Rand, states, symbols int) api.Machine {
	m := api.Machine{States: states, Symbols: symbols}
	for s := 0; s < states; s++ {
		var row []api.Rule
		for x := 0; x < symbols; x++ {
			row = append(row, api.Rule{Write: r.Intn(symbols), Move: 2*r.Intn(2) - 1, Next: r.Intn(states+1) - 1})
		}
		m.Rules = append(m.Rules, row)
	}
	return m
}

func TestExamples(t *testing.T) {
	root, e := Root(2, 2)
	if e != api.OK || text(root) != "1RZ1RZ_1RZ1RZ" {
		t.Error(root, e)
	}
	list, stops, e := Children(root, 100)
	var got []string
	for _, m := range list {
		got = append(got, text(m))
	}
	want := []string{"0RA1RZ_1RZ1RZ", "0RB1RZ_1RZ1RZ", "1RA1RZ_1RZ1RZ", "1RB1RZ_1RZ1RZ"}
	if e != api.OK || !stops || !reflect.DeepEqual(got, want) {
		t.Error(got, stops, e)
	}
	form, e := Normal(machine(t, "1LB1RB_1RA1LZ"), 100)
	if e != api.OK || text(form) != "1RB1LB_1LA1RZ" {
		t.Error(text(form), e)
	}
}

func TestNormalByHand(t *testing.T) {
	cases := []struct {
		from string
		n    int
		want string
	}{
		{"0LB1LC_1RA0RB_1RZ1RZ", 0, "1RZ1RZ_1RZ1RZ_1RZ1RZ"},
		{"1LC1RZ_1LA0RA_0RA1RB", 1, "1RB1RZ_1RZ1RZ_1RZ1RZ"},
		{"2LC1RZ0RA_1LA0RA0RA_0RZ1RB1RB", 9, "1RB1RZ1RZ_1RZ1RZ1RZ_1RZ1RZ1RZ"},
		{"0LZ1RA", 5, "1RZ1RZ"},
		{"0RB1RB_0RA0RA", 100, "0RB1RZ_0RA1RZ"},
		{"2RA0LZ1LA_1RA1RA1RA", 4, "1RA1RZ1RZ_1RZ1RZ1RZ"},
	}
	for _, c := range cases {
		m := machine(t, c.from)
		if got, e := Normal(m, c.n); e != api.OK || text(got) != c.want {
			t.Errorf("%s for %d: %s, want %s", c.from, c.n, text(got), c.want)
		}
	}
}

// TestSame compares the runs of machines and of their normal forms, with names that are read off the runs.
func TestSame(t *testing.T) {
	r := rand.New(rand.NewSource(1))
	for i := 0; i < 2000; i++ {
		m := anyMachine(r, 1+r.Intn(4), 2+r.Intn(3))
		n := r.Intn(40)
		form, e := Normal(m, n)
		if e != api.OK || !tape.Valid(form) {
			t.Fatal(text(m), e)
		}
		if again, _ := Normal(form, n); !reflect.DeepEqual(form, again) {
			t.Fatalf("%s: %s, again %s", text(m), text(form), text(again))
		}
		a := m
		if n > 0 && m.Rules[0][0].Move < 0 {
			a, _ = tape.Mirror(m)
		}
		states, symbols := map[int]int{}, map[int]int{}
		for k := 0; k <= n; k++ {
			x, done, _ := tape.Run(a, api.Config{}, k)
			y, same, _ := tape.Run(form, api.Config{}, k)
			if done != same || (x.State == api.Stop) != (y.State == api.Stop) {
				t.Fatalf("%s and %s: %d and %d steps", text(m), text(form), done, same)
			}
			if x.State == api.Stop {
				break
			}
			if x.Pos != y.Pos || !maps(states, x.State, y.State) {
				t.Fatalf("%s and %s after %d steps: %v, %v", text(m), text(form), k, x, y)
			}
			for p := -k; p <= k; p++ {
				if !maps(symbols, tape.Read(x, p), tape.Read(y, p)) {
					t.Fatalf("%s and %s after %d steps: %v, %v", text(m), text(form), k, x, y)
				}
			}
		}
		path, e := Path(m, n)
		if e != api.OK && e != api.ErrNone || (e == api.ErrNone) == stopping(form) {
			t.Fatal(text(form), e)
		}
		checkPath(t, path, form, n)
	}
}

func maps(names map[int]int, x, y int) bool {
	if z, ok := names[x]; ok {
		return z == y
	}
	names[x] = y
	return true
}

func stopping(m api.Machine) bool {
	for _, row := range m.Rules {
		for _, rule := range row {
			if rule.Next == api.Stop {
				return true
			}
		}
	}
	return false
}

func checkPath(t *testing.T, path []api.Machine, form api.Machine, n int) {
	t.Helper()
	if len(path) == 0 {
		return
	}
	root, _ := Root(form.States, form.Symbols)
	if !reflect.DeepEqual(path[0], root) || !reflect.DeepEqual(path[len(path)-1], form) {
		t.Fatalf("path from %s to %s, want %s", text(path[0]), text(path[len(path)-1]), text(form))
	}
	for i := 1; i < len(path); i++ {
		list, _, _ := Children(path[i-1], n)
		found := 0
		for _, m := range list {
			if reflect.DeepEqual(m, path[i]) {
				found++
			}
		}
		if found != 1 {
			t.Fatalf("%s is %d times a child of %s", text(path[i]), found, text(path[i-1]))
		}
	}
}

func TestAlike(t *testing.T) {
	r := rand.New(rand.NewSource(2))
	for i := 0; i < 1000; i++ {
		m := anyMachine(r, 1+r.Intn(4), 2+r.Intn(3))
		n := 1 + r.Intn(40)
		form, _ := Normal(m, n)
		states, symbols := []int{0}, []int{0}
		for _, s := range r.Perm(m.States - 1) {
			states = append(states, s+1)
		}
		for _, x := range r.Perm(m.Symbols - 1) {
			symbols = append(symbols, x+1)
		}
		other, _ := tape.Mirror(m)
		a, _ := Normal(other, n)
		other, _ = tape.Rename(other, states, symbols)
		b, _ := Normal(other, n)
		if !reflect.DeepEqual(form, a) || !reflect.DeepEqual(form, b) {
			t.Fatalf("%s: %s, mirrored %s, renamed %s", text(m), text(form), text(a), text(b))
		}
	}
}

func TestTree(t *testing.T) {
	const n = 100
	list, e := Walk(2, 2, n, api.MaxTree)
	if e != api.OK || len(list) < 10 {
		t.Fatal(len(list), e)
	}
	met := map[string]bool{}
	for _, m := range list {
		if met[text(m)] {
			t.Errorf("%s is there twice", text(m))
		}
		met[text(m)] = true
		if form, _ := Normal(m, n); !reflect.DeepEqual(form, m) {
			t.Errorf("%s is not its normal form %s", text(m), text(form))
		}
	}
	// All machines of two states and two symbols.
	var rules []api.Rule
	for i := 0; i < 12; i++ {
		rules = append(rules, api.Rule{Write: i % 2, Move: i/2%2*2 - 1, Next: i/4 - 1})
	}
	for i := 0; i < 12*12*12*12; i += 7 {
		m := api.Machine{States: 2, Symbols: 2, Rules: [][]api.Rule{{rules[i%12], rules[i/12%12]}, {rules[i/144%12], rules[i/1728]}}}
		form, _ := Normal(m, n)
		if stopping(form) && !met[text(form)] {
			t.Errorf("%s: %s is not in the tree", text(m), text(form))
		}
	}
	if all, e := Walk(2, 2, n, len(list)); e != api.OK || len(all) != len(list) {
		t.Error(e)
	}
	if all, e := Walk(2, 2, n, len(list)-1); e != api.ErrSize || all != nil {
		t.Error(e)
	}
}

func TestOrderAndLeaves(t *testing.T) {
	const n = 50
	list, e := Walk(2, 3, n, api.MaxTree)
	if e != api.OK {
		t.Fatal(e)
	}
	at := 0
	var visit func(m api.Machine)
	visit = func(m api.Machine) {
		if at >= len(list) || !reflect.DeepEqual(list[at], m) {
			t.Fatalf("machine %d is not %s", at, text(m))
		}
		at++
		children, stops, _ := Children(m, n)
		_, steps, _ := tape.Run(m, api.Config{}, n)
		c, _, _ := tape.Run(m, api.Config{}, n)
		if stops != (c.State == api.Stop) || !stops && len(children) > 0 {
			t.Fatalf("%s: %v, %d children", text(m), stops, len(children))
		}
		for _, child := range children {
			_, more, _ := tape.Run(child, api.Config{}, n)
			if differences(m, child) != 1 || more < steps {
				t.Fatalf("%s is a child of %s", text(child), text(m))
			}
			visit(child)
		}
	}
	root, _ := Root(2, 3)
	visit(root)
	if at != len(list) {
		t.Error(at, len(list))
	}
}

func differences(a, b api.Machine) int {
	n := 0
	for s, row := range a.Rules {
		for x, rule := range row {
			if rule != b.Rules[s][x] {
				n++
			}
		}
	}
	return n
}

func TestOneStoppingRuleHasNoChildren(t *testing.T) {
	list, stops, e := Children(machine(t, "1RB1LB_1LA1RZ"), 100)
	if e != api.OK || !stops || len(list) != 0 {
		t.Error(list, stops, e)
	}
	list, stops, e = Children(machine(t, "1RB1LB_1LA1RZ"), 5)
	if e != api.OK || stops || len(list) != 0 {
		t.Error(list, stops, e)
	}
	root, _ := Root(1, 2)
	if list, stops, e = Children(root, 0); e != api.OK || stops || len(list) != 0 {
		t.Error(list, stops, e)
	}
}

func TestThreeStates(t *testing.T) {
	list, e := Walk(3, 2, 100, api.MaxTree)
	if e != api.OK {
		t.Fatal(e)
	}
	longest := 0
	for _, m := range list {
		if c, k, _ := tape.Run(m, api.Config{}, 100); c.State == api.Stop {
			longest = max(longest, k)
		}
	}
	if longest != 21 {
		t.Error(longest)
	}
}

func TestManySteps(t *testing.T) {
	// More cells than a configuration may have.
	form, e := Normal(machine(t, "1LA1LA"), api.MaxSteps)
	if e != api.OK || text(form) != "1RA1RZ" {
		t.Error(text(form), e)
	}
}

func TestInvalid(t *testing.T) {
	good := machine(t, "1RB1LB_1LA1RZ")
	for _, n := range []int{-1, api.MaxSteps + 1, math.MinInt, math.MaxInt} {
		_, e1 := Normal(good, n)
		_, _, e2 := Children(good, n)
		_, e3 := Path(good, n)
		_, f1 := Normal(api.Machine{}, n)
		_, _, f2 := Children(api.Machine{}, n)
		_, f3 := Path(api.Machine{}, n)
		if e1 != api.ErrArg || e2 != api.ErrArg || e3 != api.ErrArg || f1 != api.ErrForm || f2 != api.ErrForm || f3 != api.ErrForm {
			t.Error(n, e1, e2, e3, f1, f2, f3)
		}
	}
	for _, size := range [][2]int{{0, 2}, {7, 2}, {2, 1}, {2, 5}, {math.MinInt, math.MaxInt}} {
		_, e1 := Root(size[0], size[1])
		_, e2 := Walk(size[0], size[1], 1, 1)
		if e1 != api.ErrArg || e2 != api.ErrArg {
			t.Error(size, e1, e2)
		}
	}
	for _, c := range [][2]int{{-1, 5}, {10001, 5}, {5, 0}, {5, api.MaxTree + 1}} {
		if _, e := Walk(2, 2, c[0], c[1]); e != api.ErrArg {
			t.Error(c, e)
		}
	}
	if list, e := Walk(1, 2, 0, 1); e != api.OK || len(list) != 1 {
		t.Error(list, e)
	}
	// Both rules are used, and none stops.
	if _, e := Path(machine(t, "1RB1RB_1LA1LA"), 50); e != api.ErrNone {
		t.Error(e)
	}
}
