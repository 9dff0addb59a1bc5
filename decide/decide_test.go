package decide

import (
	"math/rand"
	"reflect"
	"testing"

	"standstill/api"
	"standstill/back"
	"standstill/loop"
	"standstill/normal"
	"standstill/proof"
	"standstill/search"
	"standstill/shape"
	"standstill/tape"
)

func machine(t *testing.T, s string) api.Machine {
	t.Helper()
	m, e := tape.Parse(s)
	if e != api.OK {
		t.Fatalf("%q: %d", s, e)
	}
	return m
}

func text(m api.Machine) string {
	s, _ := tape.Text(m)
	return s
}

func anyMachine(r *rand.Rand, states, symbols int) api.Machine {
	m := api.Machine{States: states, Symbols: symbols}
	for s := 0; s < m.States; s++ {
		var row []api.Rule
		for x := 0; x < m.Symbols; x++ {
			row = append(row, api.Rule{Write: r.Intn(m.Symbols), Move: 2*r.Intn(2) - 1, Next: r.Intn(m.States+1) - 1})
		}
		m.Rules = append(m.Rules, row)
	}
	return m
}

// checked decides a machine and tests the certificate; false if there is none.
func checked(t *testing.T, m api.Machine) (api.Cert, bool) {
	t.Helper()
	c, e := Decide(m)
	if e == api.ErrNone {
		if !reflect.DeepEqual(c, api.Cert{}) {
			t.Fatalf("%s: %v", text(m), c)
		}
		return c, false
	}
	if e != api.OK {
		t.Fatalf("%s: %d", text(m), e)
	}
	if ok, e := proof.Check(m, c); !ok || e != api.OK {
		t.Fatalf("%s: %v is not accepted", text(m), c)
	}
	end, n, _ := tape.Run(m, api.Config{}, 2000)
	if steps, stops := proof.Stops(c); stops != (end.State == api.Stop) && n < 2000 || stops && n < 2000 && steps != n {
		t.Fatalf("%s stops after %d steps, not %d", text(m), n, steps)
	}
	return c, true
}

func TestExamples(t *testing.T) {
	for s, n := range map[string]int{"1RB1LB_1LA1RZ": 6, "1RB1RZ_1LB0RC_1LC1LA": 21} {
		if c, e := Decide(machine(t, s)); e != api.OK || !reflect.DeepEqual(c, api.Cert{Kind: api.CertStop, A: n}) {
			t.Error(s, c, e)
		}
	}
	if c, ok := checked(t, machine(t, "1RB1RA_1LB0RC_1LC1LA")); !ok || c.Kind == api.CertStop {
		t.Error(c)
	}
}

func TestAllOfTwoStates(t *testing.T) {
	var rules []api.Rule
	for i := range 12 {
		rules = append(rules, api.Rule{Write: i % 2, Move: i/2%2*2 - 1, Next: i/4 - 1})
	}
	for i := range 12 * 12 * 12 * 12 {
		m := api.Machine{States: 2, Symbols: 2, Rules: [][]api.Rule{{rules[i%12], rules[i/12%12]}, {rules[i/144%12], rules[i/1728]}}}
		if _, ok := checked(t, m); !ok {
			t.Fatalf("%s is open", text(m))
		}
	}
}

func TestTreeOfThreeStates(t *testing.T) {
	list, e := normal.Walk(3, 2, 100, api.MaxTree)
	if e != api.OK {
		t.Fatal(e)
	}
	certs, open, e := All(list)
	if e != api.OK || open != 0 || len(certs) != len(list) {
		t.Fatal(open, e)
	}
	kinds := map[int]int{}
	for i, m := range list {
		if ok, e := proof.Check(m, certs[i]); !ok || e != api.OK {
			t.Fatalf("%s: %v is not accepted", text(m), certs[i])
		}
		kinds[certs[i].Kind]++
	}
	if len(kinds) != api.CertKinds {
		t.Error(kinds)
	}
}

func TestAnyOfThreeStates(t *testing.T) {
	r := rand.New(rand.NewSource(1))
	for range 5000 {
		m := anyMachine(r, 3, 2)
		c, ok := checked(t, m)
		form, _ := normal.Normal(m, 100)
		d, same := checked(t, form)
		if !ok || !same {
			t.Fatalf("%s is open", text(m))
		}
		a, stops := proof.Stops(c)
		b, both := proof.Stops(d)
		if a != b || stops != both {
			t.Fatalf("%s: %v, its normal form %v", text(m), c, d)
		}
		if again, _ := Decide(m); !reflect.DeepEqual(c, again) {
			t.Fatalf("%s: %v, again %v", text(m), c, again)
		}
	}
}

func TestWhatOthersFind(t *testing.T) {
	r := rand.New(rand.NewSource(2))
	open := 0
	for range 300 {
		m := anyMachine(r, 2+r.Intn(4), 2+r.Intn(3))
		for s := range m.States {
			for x := range m.Symbols {
				if rule := &m.Rules[s][x]; rule.Next == api.Stop && r.Intn(3) > 0 {
					rule.Next = r.Intn(m.States)
				}
			}
		}
		if _, ok := checked(t, m); ok {
			continue
		}
		open++
		_, _, _, e1 := loop.Find(m, 200)
		_, e2 := back.Find(m, 8)
		_, _, e3 := search.Grams(m, 3)
		_, _, e4 := shape.Find(m, 2000)
		if e1 == api.OK || e2 == api.OK || e3 == api.OK || e4 == api.OK {
			t.Fatalf("%s: %d %d %d %d", text(m), e1, e2, e3, e4)
		}
	}
}

func TestLongRuns(t *testing.T) {
	if c, e := Decide(machine(t, "1RB1LB_1LA0LC_1RZ1LD_1RD0RA")); e != api.OK || !reflect.DeepEqual(c, api.Cert{A: 107}) {
		t.Error(c, e)
	}
	// Binary counters have closed sets, but no loops.
	if c, ok := checked(t, machine(t, "1LB1RA_0RA0LB")); !ok || c.Kind == api.CertStop {
		t.Error(c)
	}
}

func TestAllOf(t *testing.T) {
	one, two := machine(t, "1RB1LB_1LA1RZ"), machine(t, "1RA1RZ")
	certs, open, e := All([]api.Machine{one, two})
	a, _ := Decide(one)
	b, _ := Decide(two)
	if e != api.OK || open != 0 || !reflect.DeepEqual(certs, []api.Cert{a, b}) {
		t.Error(certs, open, e)
	}
	if certs, open, e := All(nil); e != api.OK || open != 0 || len(certs) != 0 {
		t.Error(certs, open, e)
	}
	// This one does not stop soon, and runs to and fro in a way that no method knows.
	hard := machine(t, "1RB2LA1RB_1LA1RZ1RA")
	if c, e := Decide(hard); e == api.ErrNone {
		certs, open, e := All([]api.Machine{one, hard, two})
		if e != api.OK || open != 1 || !reflect.DeepEqual(certs, []api.Cert{a, {}, b}) {
			t.Error(certs, open, e)
		}
	} else if e != api.OK {
		t.Error(c, e)
	}
}

func TestInvalid(t *testing.T) {
	if c, e := Decide(api.Machine{}); e != api.ErrForm || !reflect.DeepEqual(c, api.Cert{}) {
		t.Error(c, e)
	}
	many := make([]api.Machine, api.MaxTree+1)
	if certs, open, e := All(many); e != api.ErrForm || certs != nil || open != 0 {
		t.Error(e)
	}
	for i := range many {
		many[i] = machine(t, "1RA1RZ")
	}
	if certs, open, e := All(many); e != api.ErrSize || certs != nil || open != 0 {
		t.Error(e)
	}
	many[api.MaxTree] = api.Machine{}
	if _, _, e := All(many); e != api.ErrForm {
		t.Error(e)
	}
}
