package trace

import (
	"math"
	"math/rand"
	"reflect"
	"slices"
	"testing"

	"standstill/api"
	"standstill/tape"
)

func machine(t *testing.T, s string) api.Machine {
	t.Helper()
	m, e := tape.Parse(s)
	if e != api.OK {
		t.Fatalf("%q: %d", s, e)
	}
	return m
}

func anyMachine(r *rand.Rand) api.Machine {
	m := api.Machine{States: 1 + r.Intn(4), Symbols: 2 + r.Intn(3)}
	for s := 0; s < m.States; s++ {
		var row []api.Rule
		for x := 0; x < m.Symbols; x++ {
			rule := api.Rule{Write: r.Intn(m.Symbols), Move: 2*r.Intn(2) - 1, Next: r.Intn(m.States)}
			if r.Intn(10) == 0 {
				rule.Next = api.Stop
			}
			row = append(row, rule)
		}
		m.Rules = append(m.Rules, row)
	}
	return m
}

func TestExamples(t *testing.T) {
	m := machine(t, "1RB1LB_1LA1RZ")
	heads, e := Heads(m, 100)
	if e != api.OK || !slices.Equal(heads, []int{0, 1, 0, -1, -2, -1, 0}) {
		t.Error(heads, e)
	}
	records, e := Records(m, 100, true)
	if e != api.OK || !slices.Equal(records, []api.Record{{Step: 1, Pos: 1, State: 1}}) {
		t.Error(records, e)
	}
	used, e := Used(m, 100)
	if e != api.OK || !slices.Equal(used, [][2]int{{0, 0}, {1, 0}, {0, 1}, {1, 1}}) {
		t.Error(used, e)
	}
	low, high, e := Reach(m, 100)
	if e != api.OK || low != -2 || high != 1 {
		t.Error(low, high, e)
	}
}

func TestRuns(t *testing.T) {
	r := rand.New(rand.NewSource(1))
	for i := 0; i < 300; i++ {
		m := anyMachine(r)
		n := r.Intn(80)
		configs, e1 := Configs(m, n)
		heads, e2 := Heads(m, n)
		low, high, e3 := Reach(m, n)
		used, e4 := Used(m, n)
		if e1 != api.OK || e2 != api.OK || e3 != api.OK || e4 != api.OK {
			t.Fatal(e1, e2, e3, e4)
		}
		if len(configs) != n+1 && configs[len(configs)-1].State != api.Stop || len(heads) != len(configs) {
			t.Fatalf("%v: %d configurations", m, len(configs))
		}
		var rules [][2]int
		left, right := 0, 0
		for k, c := range configs {
			want, _, _ := tape.Run(m, api.Config{}, k)
			if c.State != want.State || c.Pos != want.Pos || c.From != want.From || !slices.Equal(c.Cells, want.Cells) || heads[k] != c.Pos {
				t.Fatalf("%v: %v, want %v", m, c, want)
			}
			left, right = min(left, c.Pos), max(right, c.Pos)
			if at := [2]int{c.State, tape.Read(c, c.Pos)}; k < n && c.State != api.Stop && !slices.Contains(rules, at) {
				rules = append(rules, at)
			}
		}
		if !slices.Equal(used, rules) || low != left || high != right {
			t.Fatalf("%v: %v, want %v", m, used, rules)
		}
		checkRecords(t, m, configs, n)
		checkUsed(t, r, m, n)
	}
}

func checkRecords(t *testing.T, m api.Machine, configs []api.Config, n int) {
	t.Helper()
	var want, opposite []api.Record
	for k, c := range configs {
		if c.Pos > len(want) && c.State != api.Stop {
			want = append(want, api.Record{Step: k, Pos: c.Pos, State: c.State})
			opposite = append(opposite, api.Record{Step: k, Pos: -c.Pos, State: c.State})
		}
	}
	got, e := Records(m, n, true)
	if e != api.OK || !slices.Equal(got, want) {
		t.Fatalf("%v: %v, want %v", m, got, want)
	}
	mirrored, _ := tape.Mirror(m)
	if got, e := Records(mirrored, n, false); e != api.OK || !slices.Equal(got, opposite) {
		t.Fatalf("%v: %v, want %v", m, got, opposite)
	}
	more, _ := Records(m, n+30, true)
	if !slices.Equal(more[:len(want)], want) {
		t.Fatalf("%v: %v, want %v", m, more, want)
	}
}

func checkUsed(t *testing.T, r *rand.Rand, m api.Machine, n int) {
	t.Helper()
	used, _ := Used(m, n)
	configs, _ := Configs(m, n)
	for s, row := range m.Rules {
		for x := range row {
			if !slices.Contains(used, [2]int{s, x}) {
				m.Rules[s][x] = api.Rule{Write: r.Intn(m.Symbols), Move: 2*r.Intn(2) - 1, Next: r.Intn(m.States)}
			}
		}
	}
	if again, _ := Configs(m, n); !reflect.DeepEqual(configs, again) {
		t.Fatalf("%v: another run", m)
	}
	if more, _ := Used(m, n+30); !slices.Equal(more[:len(used)], used) {
		t.Fatalf("%v: %v, want %v", m, more, used)
	}
}

func TestNoSteps(t *testing.T) {
	m := machine(t, "1RB1LB_1LA1RZ")
	configs, _ := Configs(m, 0)
	heads, _ := Heads(m, 0)
	records, _ := Records(m, 0, true)
	used, _ := Used(m, 0)
	if len(configs) != 1 || len(heads) != 1 || len(records) != 0 || len(used) != 0 {
		t.Error(configs, heads, records, used)
	}
}

func TestTheStepThatStopsIsNoRecord(t *testing.T) {
	m := machine(t, "1RB1RZ_1RZ1RZ")
	if records, _ := Records(m, 9, true); len(records) != 1 {
		t.Error(records)
	}
	if heads, _ := Heads(m, 9); !slices.Equal(heads, []int{0, 1, 2}) {
		t.Error(heads)
	}
	if used, _ := Used(m, 9); len(used) != 2 {
		t.Error(used)
	}
}

func TestManySteps(t *testing.T) {
	m := machine(t, "1LA1LA")
	records, e := Records(m, api.MaxSteps, false)
	if e != api.OK || len(records) != api.MaxSteps || records[len(records)-1].Pos != -api.MaxSteps {
		t.Error(len(records), e)
	}
	if used, e := Used(m, api.MaxSteps); e != api.OK || len(used) != 1 {
		t.Error(used, e)
	}
	if configs, e := Configs(m, api.MaxTrace); e != api.OK || len(configs) != api.MaxTrace+1 {
		t.Error(len(configs), e)
	}
}

func TestInvalid(t *testing.T) {
	good := machine(t, "1RB1LB_1LA1RZ")
	errors := func(m api.Machine, n, more int) []api.Errno {
		_, e1 := Configs(m, n)
		_, e2 := Heads(m, n)
		_, e3 := Records(m, more, true)
		_, e4 := Used(m, more)
		_, _, e5 := Reach(m, n)
		return []api.Errno{e1, e2, e3, e4, e5}
	}
	for _, e := range slices.Concat(errors(good, -1, -1), errors(good, api.MaxTrace+1, api.MaxSteps+1), errors(good, math.MaxInt, math.MinInt)) {
		if e != api.ErrArg {
			t.Error(e)
		}
	}
	for _, e := range errors(api.Machine{}, -1, -1) {
		if e != api.ErrForm {
			t.Error(e)
		}
	}
}
