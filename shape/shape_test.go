package shape

import (
	"math"
	"math/rand"
	"reflect"
	"slices"
	"testing"

	"standstill/api"
	"standstill/tape"
)

func machine(t *testing.T, s string) api.Machine {
	t.Helper()
	m, e := tape.Parse(s)
	if e != api.OK {
		t.Fatalf("%q: %d", s, e)
	}
	return m
}

func anyMachine(r *rand.Rand) api.Machine {
	m := api.Machine{States: 1 + r.Intn(3), Symbols: 2 + r.Intn(2)}
	for s := 0; s < m.States; s++ {
		var row []api.Rule
		for x := 0; x < m.Symbols; x++ {
			rule := api.Rule{Write: r.Intn(m.Symbols), Move: 2*r.Intn(2) - 1, Next: r.Intn(m.States)}
			if r.Intn(12) == 0 {
				rule.Next = api.Stop
			}
			row = append(row, rule)
		}
		m.Rules = append(m.Rules, row)
	}
	return m
}

func mustCheck(t *testing.T, m api.Machine, a int, s api.Shape) bool {
	t.Helper()
	ok, e := Check(m, a, s)
	if e != api.OK {
		t.Fatal(e)
	}
	return ok
}

func ones() api.Shape {
	return api.Shape{Words: [][]int{nil, nil}, Repeats: [][]int{{1}}, First: 1}
}

func TestExamples(t *testing.T) {
	m := machine(t, "1RA1RZ")
	if !mustCheck(t, m, 1, ones()) || mustCheck(t, m, 0, ones()) || mustCheck(t, m, 2, ones()) {
		t.Error("1RA1RZ")
	}
	second := ones()
	second.First = 2
	if !mustCheck(t, m, 2, second) || mustCheck(t, m, 1, second) {
		t.Error("1RA1RZ from 2 on")
	}
}

func TestTape(t *testing.T) {
	m := machine(t, "1RA1RB2LA_1LA1LB0RA")
	s := api.Shape{State: 1, Words: [][]int{{0, 2}, {1}, {2, 0, 0}}, Repeats: [][]int{{1, 0}, {2}}, First: 1}
	c, e := Tape(m, s, 2)
	if e != api.OK || c.State != 1 || c.Pos != 0 || c.From != -11 || !slices.Equal(c.Cells, []int{2, 1, 0, 1, 0, 1, 2, 2, 2}) {
		t.Error(c, e)
	}
	s.Mirrored = true
	c, e = Tape(m, s, 2)
	if e != api.OK || c.State != 1 || c.Pos != 0 || c.From != 3 || !slices.Equal(c.Cells, []int{2, 2, 2, 1, 0, 1, 0, 1, 2}) {
		t.Error(c, e)
	}
	if c, e = Tape(m, s, 0); e != api.OK || c.From != 3 || !slices.Equal(c.Cells, []int{2, 1, 2}) {
		t.Error(c, e)
	}
	blank := api.Shape{Words: [][]int{{0}, nil}, Repeats: [][]int{{0}}, First: 1}
	if c, e = Tape(m, blank, 1000); e != api.OK || len(c.Cells) != 0 || c.From != 0 {
		t.Error(c, e)
	}
	long := slices.Repeat([]int{1}, api.MaxShape)
	great := api.Shape{Words: [][]int{nil, nil, nil}, Repeats: [][]int{long, long}, First: 100}
	if c, e = Tape(m, great, 833); e != api.OK || len(c.Cells) != 833*120 {
		t.Error(len(c.Cells), e)
	}
	if c, e = Tape(m, great, 834); e != api.ErrSize || c.Cells != nil {
		t.Error(len(c.Cells), e)
	}
	for _, n := range []int{-1, 1001, math.MinInt} {
		if _, e = Tape(m, s, n); e != api.ErrArg {
			t.Error(n, e)
		}
	}
}

func TestInvalid(t *testing.T) {
	m := machine(t, "1RA1RZ")
	change := func(f func(s *api.Shape)) api.Shape {
		s := ones()
		f(&s)
		return s
	}
	long := make([]int, api.MaxShape+1)
	bad := []api.Shape{
		{},
		change(func(s *api.Shape) { s.State = 1 }),
		change(func(s *api.Shape) { s.State = api.Stop }),
		change(func(s *api.Shape) { s.First = 0 }),
		change(func(s *api.Shape) { s.First = 101 }),
		change(func(s *api.Shape) { s.Words = s.Words[1:] }),
		change(func(s *api.Shape) { s.Words = [][]int{nil, nil, nil} }),
		change(func(s *api.Shape) { s.Words = [][]int{{2}, nil} }),
		change(func(s *api.Shape) { s.Words = [][]int{nil, {-1}} }),
		change(func(s *api.Shape) { s.Words = [][]int{nil, long} }),
		change(func(s *api.Shape) { s.Repeats = [][]int{nil} }),
		change(func(s *api.Shape) { s.Repeats = [][]int{{2}} }),
		change(func(s *api.Shape) { s.Repeats = [][]int{long} }),
		change(func(s *api.Shape) { s.Repeats, s.Words = nil, [][]int{nil} }),
		change(func(s *api.Shape) {
			s.Repeats, s.Words = [][]int{{1}, {1}, {1}, {1}}, make([][]int, 5)
		}),
	}
	for _, s := range bad {
		_, e1 := Tape(m, s, -1)
		ok, e2 := Check(m, 1, s)
		_, e3 := Check(api.Machine{}, 1, s)
		if e1 != api.ErrForm || e2 != api.ErrArg || e3 != api.ErrForm || ok {
			t.Errorf("%v: %d %d %d", s, e1, e2, e3)
		}
	}
	for _, a := range []int{-1, api.MaxSteps + 1, math.MaxInt} {
		if ok, e := Check(m, a, ones()); e != api.ErrArg || ok {
			t.Error(a, e)
		}
	}
	for _, n := range []int{0, -1, api.MaxSteps + 1} {
		if _, _, e := Find(m, n); e != api.ErrArg {
			t.Error(n, e)
		}
	}
	if _, _, e := Find(api.Machine{}, 0); e != api.ErrForm {
		t.Error(e)
	}
	if _, e := Tape(api.Machine{}, ones(), 0); e != api.ErrForm {
		t.Error(e)
	}
	// It stops after one step, though the cells would fit.
	if ok, e := Check(machine(t, "1RZ1RA"), 1, ones()); e != api.OK || ok {
		t.Error(ok, e)
	}
}

// passes tests that a run goes through the configurations from number First on.
func passes(t *testing.T, m api.Machine, a int, s api.Shape) {
	t.Helper()
	c, k, _ := tape.Run(m, api.Config{}, a)
	if k != a {
		t.Fatalf("%v stops before %d", m, a)
	}
	n := s.First
	for i := 0; i < 3000 && n < s.First+50; i++ {
		want, e := Tape(m, s, n)
		if e != api.OK {
			t.Fatal(e)
		}
		if alike(c, want) {
			n++
		}
		if c, e = tape.Step(m, c); e != api.OK {
			t.Fatalf("%v stops", m)
		}
	}
	if n < s.First+5 {
		t.Fatalf("%v: from %d on %v only up to %d", m, a, s, n)
	}
}

func TestFound(t *testing.T) {
	r := rand.New(rand.NewSource(1))
	found := 0
	for i := 0; i < 250; i++ {
		m := anyMachine(r)
		a, s, e := Find(m, 400)
		if e != api.OK {
			if e != api.ErrNone || a != 0 || !reflect.DeepEqual(s, api.Shape{}) {
				t.Fatal(a, s, e)
			}
			continue
		}
		found++
		if a > 400 || !mustCheck(t, m, a, s) {
			t.Fatalf("%v: %d, %v", m, a, s)
		}
		passes(t, m, a, s)
		other, _ := tape.Mirror(m)
		s.Mirrored = !s.Mirrored
		if !mustCheck(t, other, a, s) {
			t.Fatalf("%v: %v is not accepted for the mirrored machine", m, s)
		}
	}
	if found < 50 {
		t.Error(found)
	}
}

// TestAllSmallShapesAreFound looks for shapes by Check alone.
func TestAllSmallShapesAreFound(t *testing.T) {
	r := rand.New(rand.NewSource(2))
	found := 0
	for i := 0; i < 1500; i++ {
		m := anyMachine(r)
		a := r.Intn(21)
		s := api.Shape{Mirrored: r.Intn(2) == 0, First: 1 + r.Intn(3)}
		c, k, _ := tape.Run(m, api.Config{}, a)
		if k < a || c.State == api.Stop {
			continue
		}
		s.State = c.State
		if s.Mirrored {
			c, _ = tape.Reflect(c)
		}
		repeat, last := 1+r.Intn(3), r.Intn(5)
		read := func(from, to int) []int {
			var out []int
			for p := from; p < to; p++ {
				out = append(out, tape.Read(c, c.Pos+p))
			}
			return out
		}
		begin := -last - repeat*s.First
		s.Repeats = [][]int{read(-last-repeat, -last)}
		s.Words = [][]int{read(begin-4, begin), read(-last, 0)}
		if !mustCheck(t, m, a, s) {
			continue
		}
		found++
		if _, _, e := Find(m, 10*a+1); a > 0 && e != api.OK {
			t.Fatalf("%v: %d, %v is not found", m, a, s)
		}
	}
	if found < 50 {
		t.Error(found)
	}
}

func TestBouncers(t *testing.T) {
	cases := []struct {
		machine string
		a       int
		s       api.Shape
	}{
		// The head runs to and fro over ones.
		{"1RB1LA_1LA1RB", 6, api.Shape{State: 1, Words: [][]int{{1}, {}}, Repeats: [][]int{{1, 1}}, First: 1}},
	}
	for _, c := range cases {
		m := machine(t, c.machine)
		if !mustCheck(t, m, c.a, c.s) {
			t.Errorf("%s: %v is not accepted", c.machine, c.s)
		}
		passes(t, m, c.a, c.s)
	}
	// With two repeats, which both grow.
	m := machine(t, "1RB2LA0RZ_2LA1RB2RB")
	if a, s, e := Find(m, 5000); e == api.OK {
		passes(t, m, a, s)
	}
}

func TestRefused(t *testing.T) {
	// A machine that stops has no shape, whatever its words are.
	r := rand.New(rand.NewSource(3))
	for i := 0; i < 3000; i++ {
		m := anyMachine(r)
		end, n, _ := tape.Run(m, api.Config{}, 300)
		if end.State != api.Stop {
			continue
		}
		for a := range n {
			c, _, _ := tape.Run(m, api.Config{}, a)
			s := api.Shape{State: c.State, Words: [][]int{nil, nil}, Repeats: [][]int{{}}, First: 1}
			for p := c.Pos - 5; p < c.Pos; p++ {
				s.Repeats[0] = append(s.Repeats[0], tape.Read(c, p))
			}
			if mustCheck(t, m, a, s) {
				t.Fatalf("%v stops after %d steps, %v", m, n, s)
			}
		}
	}
	// After the last word of the block is used, there is no move.
	m := machine(t, "1LB1RA_0LB1LB")
	if mustCheck(t, m, 0, api.Shape{Words: [][]int{nil, nil}, Repeats: [][]int{{1}}, First: 1}) {
		t.Error("accepted")
	}
}

func TestCounterHasNone(t *testing.T) {
	m := machine(t, "1RB1LA_0LA0RB")
	counter := machine(t, "1LA1RB_0LB0LA")
	for _, m := range []api.Machine{m, counter} {
		if a, s, e := Find(m, 20000); e == api.OK {
			passes(t, m, a, s)
		}
	}
}

// TestTwoRepeats cuts tapes into all shapes with two short repeats.
func TestTwoRepeats(t *testing.T) {
	r := rand.New(rand.NewSource(4))
	found := map[bool]int{}
	for i := 0; i < 4000 && found[true] < 20; i++ {
		m := anyMachine(r)
		a := 3 + r.Intn(40)
		c, k, _ := tape.Run(m, api.Config{}, a)
		length := c.Pos - c.From
		if k < a || c.State == api.Stop || len(c.Cells) == 0 || length < len(c.Cells) || length > 12 {
			continue
		}
		var word []int
		for p := c.From; p < c.Pos; p++ {
			word = append(word, tape.Read(c, p))
		}
		for cuts := range 4 * 4 * 4 * 4 {
			w0, r0, w1, r1 := cuts%4, 1+cuts/4%4, cuts/16%4, 1+cuts/64
			if w0+r0+w1+r1 > length {
				continue
			}
			end := w0 + r0 + w1 + r1
			s := api.Shape{State: c.State, First: 1, Words: [][]int{word[:w0], word[w0+r0 : w0+r0+w1], word[end:]}, Repeats: [][]int{word[w0 : w0+r0], word[w0+r0+w1 : end]}}
			if mustCheck(t, m, a, s) {
				different := !slices.Equal(s.Repeats[0], s.Repeats[1])
				found[different]++
				passes(t, m, a, s)
			}
		}
	}
	if found[true] < 5 || found[false] < 5 {
		t.Error(found)
	}
}
