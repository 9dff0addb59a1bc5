package search

import (
	"math/rand"
	"reflect"
	"slices"
	"testing"

	"standstill/api"
	"standstill/automaton"
	"standstill/closed"
	"standstill/tape"
)

func machine(t *testing.T, s string) api.Machine {
	t.Helper()
	m, e := tape.Parse(s)
	if e != api.OK {
		t.Fatalf("%q: %d", s, e)
	}
	return m
}

func anyMachine(r *rand.Rand, states, symbols int) api.Machine {
	m := api.Machine{States: states, Symbols: symbols}
	for s := 0; s < m.States; s++ {
		var row []api.Rule
		for x := 0; x < m.Symbols; x++ {
			rule := api.Rule{Write: r.Intn(m.Symbols), Move: 2*r.Intn(2) - 1, Next: r.Intn(m.States)}
			if r.Intn(6) == 0 {
				rule.Next = api.Stop
			}
			row = append(row, rule)
		}
		m.Rules = append(m.Rules, row)
	}
	return m
}

func anyAutomaton(r *rand.Rand, symbols int) [][]int {
	rows := make([][]int, 1+r.Intn(4))
	for q := range rows {
		for range symbols {
			rows[q] = append(rows[q], r.Intn(len(rows)))
		}
	}
	rows[0][0] = 0
	return rows
}

func TestExamples(t *testing.T) {
	a, e := Gram(1, 2)
	if e != api.OK || !reflect.DeepEqual(a, [][]int{{0, 1}, {0, 1}}) {
		t.Error(a, e)
	}
	a, e = Gram(2, 2)
	if e != api.OK || !reflect.DeepEqual(a, [][]int{{0, 1}, {2, 3}, {0, 1}, {2, 3}}) {
		t.Error(a, e)
	}
	list, e := Plain(2, 2)
	want := [][][]int{{{0, 0}}, {{0, 1}, {0, 0}}, {{0, 1}, {0, 1}}, {{0, 1}, {1, 0}}, {{0, 1}, {1, 1}}}
	if e != api.OK || !reflect.DeepEqual(list, want) {
		t.Error(list, e)
	}
}

func TestGram(t *testing.T) {
	for symbols := 2; symbols <= api.MaxSymbols; symbols++ {
		states := 1
		for n := 0; n <= api.MaxGram; n++ {
			a, e := Gram(n, symbols)
			if (e == api.OK) != (states <= api.MaxAuto) || e != api.OK && e != api.ErrArg {
				t.Fatal(n, symbols, e)
			}
			if e == api.OK && (len(a) != states || !automaton.Valid(a, symbols)) {
				t.Fatal(n, symbols, a)
			}
			states *= symbols
		}
	}
	for _, c := range [][2]int{{-1, 2}, {7, 2}, {1, 1}, {1, 5}} {
		if a, e := Gram(c[0], c[1]); e != api.ErrArg || a != nil {
			t.Error(c, e)
		}
	}
}

// isPlain follows the definition.
func isPlain(rows [][]int) bool {
	met := 0
	for q, row := range rows {
		for _, p := range row {
			if p > met+1 {
				return false
			}
			met = max(met, p)
		}
		if q+1 < len(rows) && met < q+1 {
			return false
		}
	}
	return true
}

func TestPlain(t *testing.T) {
	for _, c := range [][2]int{{1, 2}, {2, 2}, {3, 2}, {2, 3}, {1, 4}} {
		n, k := c[0], c[1]
		got, e := Plain(n, k)
		var want [][][]int
		for states := 1; states <= n; states++ {
			total := 1
			for range states * k {
				total *= states
			}
			for number := range total {
				list := make([]int, states*k)
				for i := len(list) - 1; i >= 0; i-- {
					list[i] = number % states
					number /= states
				}
				if rows := rowsOf(list, k); automaton.Valid(rows, k) && isPlain(rows) {
					want = append(want, rows)
				}
			}
		}
		if e != api.OK || !reflect.DeepEqual(got, want) {
			t.Errorf("%v: %d automata, want %d", c, len(got), len(want))
		}
	}
	if list, e := Plain(3, 4); e != api.ErrSize || list != nil {
		t.Error(len(list), e)
	}
	if list, e := Plain(3, 3); e != api.OK || len(list) > api.MaxTree {
		t.Error(len(list), e)
	}
	for _, c := range [][2]int{{0, 2}, {4, 2}, {1, 1}, {1, 5}} {
		if list, e := Plain(c[0], c[1]); e != api.ErrArg || list != nil {
			t.Error(c, e)
		}
	}
}

// TestAll renumbers automata in the order in which their states are met.
func TestAll(t *testing.T) {
	list, _ := Plain(3, 3)
	r := rand.New(rand.NewSource(1))
	for i := 0; i < 500; i++ {
		a := anyAutomaton(r, 3)
		names, order := map[int]int{0: 0}, []int{0}
		var rows [][]int
		for at := 0; at < len(order); at++ {
			var row []int
			for _, p := range a[order[at]] {
				if _, ok := names[p]; !ok {
					names[p] = len(order)
					order = append(order, p)
				}
				row = append(row, names[p])
			}
			rows = append(rows, row)
		}
		if len(rows) <= 3 && !slices.ContainsFunc(list, func(b [][]int) bool { return reflect.DeepEqual(b, rows) }) {
			t.Fatal(a, rows)
		}
	}
}

func TestProduct(t *testing.T) {
	r := rand.New(rand.NewSource(2))
	for i := 0; i < 500; i++ {
		k := 2 + r.Intn(3)
		a, b := anyAutomaton(r, k), anyAutomaton(r, k)
		c, e := Product(a, b)
		if e != api.OK || !automaton.Valid(c, k) || !isPlain(c) {
			t.Fatal(a, b, c, e)
		}
		pairs := map[int][2]int{}
		for range 100 {
			p, q, s := 0, 0, 0
			for range r.Intn(9) {
				x := r.Intn(k)
				p, q, s = a[p][x], b[q][x], c[s][x]
			}
			if known, ok := pairs[s]; ok && known != [2]int{p, q} {
				t.Fatal(a, b, c)
			}
			pairs[s] = [2]int{p, q}
		}
		for s, pair := range pairs {
			for other, same := range pairs {
				if s != other && pair == same {
					t.Fatal(a, b, c)
				}
			}
		}
	}
	ring := func(n int) [][]int {
		rows := make([][]int, n)
		for q := range rows {
			rows[q] = []int{q, (q + 1) % n}
		}
		return rows
	}
	if c, e := Product(ring(15), ring(17)); e != api.OK || len(c) != 255 {
		t.Error(len(c), e)
	}
	if c, e := Product(ring(16), ring(17)); e != api.ErrSize || c != nil {
		t.Error(len(c), e)
	}
	good := [][]int{{0, 0}}
	for _, bad := range [][][]int{nil, {{0}}, {nil}, {{0, 0, 0}}, {{0, 1}}, {{1, 0}, {0, 0}}, {{0, 0, 0, 0, 0}}} {
		_, e1 := Product(bad, good)
		_, e2 := Product(good, bad)
		if e1 != api.ErrForm || e2 != api.ErrForm {
			t.Error(bad, e1, e2)
		}
	}
}

func TestGrams(t *testing.T) {
	r := rand.New(rand.NewSource(3))
	found := map[int]int{}
	for i := 0; i < 1500; i++ {
		m := anyMachine(r, 1+r.Intn(4), 2+r.Intn(2))
		if i%2 == 0 {
			// Such a machine turns back often.
			m.Rules[0][0] = api.Rule{Write: 1, Move: 1, Next: m.States - 1}
			m.Rules[m.States-1][0].Move = -1
		}
		c, n, e := Grams(m, 3)
		for j := 0; j <= 3; j++ {
			a, _ := Gram(j, m.Symbols)
			want, f := closed.Close(m, a, a, api.MaxSet)
			if f != api.OK {
				if e == api.OK && n == j {
					t.Fatal(m, n)
				}
				continue
			}
			if e != api.OK || n != j || !reflect.DeepEqual(c, want) {
				t.Fatal(m, n, e)
			}
			break
		}
		if e != api.OK {
			if e != api.ErrNone || n != 0 || c.Set != nil {
				t.Fatal(e)
			}
			continue
		}
		found[n]++
		if ok, _ := closed.Check(m, c); !ok {
			t.Fatal("not right")
		}
		if end, _, _ := tape.Run(m, api.Config{}, 1000); end.State == api.Stop {
			t.Fatal("it stops")
		}
		if _, _, f := Grams(m, n-1); n > 0 && f != api.ErrNone {
			t.Fatal(f)
		}
		a, _ := Gram(n, m.Symbols)
		left, _ := Product(a, anyAutomaton(r, m.Symbols))
		right, _ := Product(anyAutomaton(r, m.Symbols), a)
		if _, f := closed.Close(m, left, right, api.MaxSet); f == api.ErrNone {
			t.Fatalf("%v: not with a product", m)
		}
	}
	if found[0] == 0 || found[1] == 0 || found[2] == 0 {
		t.Error(found)
	}
}

func TestSmall(t *testing.T) {
	r := rand.New(rand.NewSource(4))
	found := 0
	for i := 0; i < 300; i++ {
		m := anyMachine(r, 1+r.Intn(3), 2)
		n := 1 + r.Intn(2)
		c, e := Small(m, n)
		list, _ := Plain(n, 2)
		want, f := api.Closed{}, api.ErrNone
		for i := 0; i < len(list)*len(list) && f != api.OK; i++ {
			want, f = closed.Close(m, list[i/len(list)], list[i%len(list)], 2000)
		}
		if f != api.OK {
			f = api.ErrNone
		}
		if e != f || e == api.OK && !reflect.DeepEqual(c, want) || e != api.OK && c.Set != nil {
			t.Fatalf("%v: %v, %d, want %v", m, c, e, want)
		}
		if e == api.OK {
			found++
			if ok, _ := closed.Check(m, c); !ok {
				t.Fatal("not right")
			}
		}
	}
	if found < 30 {
		t.Error(found)
	}
	if _, e := Small(machine(t, "1RB1RZ_1LB0RC_1LC1LA"), 3); e != api.ErrNone {
		t.Error(e)
	}
}

func TestInvalid(t *testing.T) {
	m := machine(t, "1RA1LA")
	four := machine(t, "1RA1LA1RA1RA")
	for _, n := range []int{-1, 7} {
		if _, _, e := Grams(m, n); e != api.ErrArg {
			t.Error(n, e)
		}
		if _, _, e := Grams(api.Machine{}, n); e != api.ErrForm {
			t.Error(n, e)
		}
	}
	for _, n := range []int{0, 4} {
		if _, e := Small(four, n); e != api.ErrArg {
			t.Error(n, e)
		}
		if _, e := Small(api.Machine{}, n); e != api.ErrForm {
			t.Error(n, e)
		}
	}
	if c, e := Small(four, 3); e != api.ErrSize || c.Set != nil {
		t.Error(e)
	}
	// No gram automaton of 5 cells exists for 4 symbols: the greater number only ends the search later.
	if _, i, e := Grams(four, 6); e != api.OK || i != 0 {
		t.Error(i, e)
	}
}
