package census

import (
	"reflect"
	"testing"

	"standstill/api"
	"standstill/decide"
	"standstill/normal"
	"standstill/proof"
	"standstill/tape"
)

func machine(t *testing.T, s string) api.Machine {
	t.Helper()
	m, e := tape.Parse(s)
	if e != api.OK {
		t.Fatalf("%q: %d", s, e)
	}
	return m
}

func TestSmallTrees(t *testing.T) {
	c, e := Tree(1, 2, 100, api.MaxTree)
	want := api.Census{Machines: 3, Stop: 1, Ever: 2, Steps: 1, Ones: 1, BySteps: "1RZ1RZ", ByOnes: "1RZ1RZ"}
	if e != api.OK || c != want {
		t.Error(c, e)
	}
	c, e = Tree(2, 2, 100, api.MaxTree)
	if e != api.OK || c.Open != 0 || c.Steps != 6 || c.Ones != 4 || c.Machines != c.Stop+c.Ever {
		t.Error(c, e)
	}
	end, n, _ := tape.Run(machine(t, c.ByOnes), api.Config{}, 100)
	if end.State != api.Stop || n != 6 || tape.Ones(end) != 4 {
		t.Error(c.ByOnes, end, n)
	}
	c, e = Tree(3, 2, 100, api.MaxTree)
	if e != api.OK || c.Open != 0 || c.Steps != 21 || c.Ones != 6 || c.Machines != c.Stop+c.Ever {
		t.Error(c, e)
	}
}

func TestLongest(t *testing.T) {
	for states, want := range map[int][2]int{1: {1, 1}, 2: {6, 4}, 3: {21, 6}} {
		if steps, ones, e := Longest(states); e != api.OK || steps != want[0] || ones != want[1] {
			t.Error(states, steps, ones, e)
		}
	}
	for _, states := range []int{0, 4, -1} {
		if steps, ones, e := Longest(states); e != api.ErrArg || steps != 0 || ones != 0 {
			t.Error(states, steps, ones, e)
		}
	}
}

// TestBound: each machine of two states that does more than 6 steps has a certificate that it runs for ever.
func TestBound(t *testing.T) {
	var rules []api.Rule
	for i := range 12 {
		rules = append(rules, api.Rule{Write: i % 2, Move: i/2%2*2 - 1, Next: i/4 - 1})
	}
	for i := 0; i < 12*12*12*12; i += 5 {
		m := api.Machine{States: 2, Symbols: 2, Rules: [][]api.Rule{{rules[i%12], rules[i/12%12]}, {rules[i/144%12], rules[i/1728]}}}
		if c, n, _ := tape.Run(m, api.Config{}, 7); n < 7 && c.State == api.Stop {
			continue
		}
		c, e := decide.Decide(m)
		if _, stops := proof.Stops(c); e != api.OK || stops {
			t.Fatal(m, c, e)
		}
	}
}

func TestOf(t *testing.T) {
	list, _ := normal.Walk(2, 2, 100, api.MaxTree)
	certs, _, _ := decide.All(list)
	for i := 0; i < len(list); i += 9 {
		certs[i] = api.Cert{}
	}
	all, e := Of(list, certs)
	if e != api.OK || all.Machines != len(list) || all.Stop+all.Ever+all.Open != len(list) || all.Open == 0 {
		t.Fatal(all, e)
	}
	for cut := range len(list) + 1 {
		a, e1 := Of(list[:cut], certs[:cut])
		b, e2 := Of(list[cut:], certs[cut:])
		if e1 != api.OK || e2 != api.OK {
			t.Fatal(e1, e2)
		}
		sum := api.Census{Machines: a.Machines + b.Machines, Stop: a.Stop + b.Stop, Ever: a.Ever + b.Ever, Open: a.Open + b.Open}
		sum.Steps, sum.BySteps = a.Steps, a.BySteps
		if b.Steps > a.Steps {
			sum.Steps, sum.BySteps = b.Steps, b.BySteps
		}
		sum.Ones, sum.ByOnes = a.Ones, a.ByOnes
		if b.Ones > a.Ones || a.Stop == 0 {
			sum.Ones, sum.ByOnes = b.Ones, b.ByOnes
		}
		if sum != all {
			t.Fatalf("%d: %v and %v, want %v", cut, a, b, all)
		}
	}
}

func TestOfFew(t *testing.T) {
	if c, e := Of(nil, nil); e != api.OK || c != (api.Census{}) {
		t.Error(c, e)
	}
	none := machine(t, "0RZ1RZ")
	ever := machine(t, "1RA1RZ")
	loop := api.Cert{Kind: api.CertLoop, B: 1, Right: true}
	c, e := Of([]api.Machine{ever, none, ever}, []api.Cert{loop, {A: 1}, {}})
	want := api.Census{Machines: 3, Stop: 1, Ever: 1, Open: 1, Steps: 1, BySteps: "0RZ1RZ", ByOnes: "0RZ1RZ"}
	if e != api.OK || c != want {
		t.Error(c, e)
	}
	// Empty lists do not make it another value.
	empty := api.Cert{Closed: api.Closed{Set: [][4]int{}}, Shape: api.Shape{Words: [][]int{}}}
	if c, e := Of([]api.Machine{ever}, []api.Cert{empty}); e != api.OK || c.Open != 1 {
		t.Error(c, e)
	}
}

func TestInvalid(t *testing.T) {
	ever := machine(t, "1RA1RZ")
	loop := api.Cert{Kind: api.CertLoop, B: 1, Right: true}
	bad := [][]api.Cert{{}, {loop, loop}, {{A: 1}}, {{Kind: api.CertLoop, B: 1}}, {{Kind: api.CertBack}}, {{B: 1}}, {{Kind: -1}}, {{Kind: api.CertKinds}}, {{Right: true}}}
	for _, certs := range bad {
		if c, e := Of([]api.Machine{ever}, certs); e != api.ErrArg || c != (api.Census{}) {
			t.Error(certs, c, e)
		}
	}
	if c, e := Of([]api.Machine{ever, {}}, nil); e != api.ErrForm || c != (api.Census{}) {
		t.Error(c, e)
	}
	for _, x := range []struct{ states, symbols, n, most int }{{0, 2, 1, 1}, {2, 5, 1, 1}, {2, 2, -1, 1}, {2, 2, 10001, 1}, {2, 2, 1, 0}, {2, 2, 1, 20001}} {
		if c, e := Tree(x.states, x.symbols, x.n, x.most); e != api.ErrArg || !reflect.DeepEqual(c, api.Census{}) {
			t.Error(x, c, e)
		}
	}
	if c, e := Tree(2, 2, 100, 5); e != api.ErrSize || c != (api.Census{}) {
		t.Error(c, e)
	}
}
