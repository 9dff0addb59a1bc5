package reduce

import (
	"math/rand"
	"reflect"
	"slices"
	"testing"

	"standstill/api"
	"standstill/counter"
	"standstill/tag"
	"standstill/tape"
)

func machine(t *testing.T, s string) api.Machine {
	t.Helper()
	m, e := tape.Parse(s)
	if e != api.OK {
		t.Fatalf("%q: %d", s, e)
	}
	return m
}

func anyMachine(r *rand.Rand) api.Machine {
	m := api.Machine{States: 1 + r.Intn(api.MaxStates), Symbols: 2}
	for s := 0; s < m.States; s++ {
		var row []api.Rule
		for x := 0; x < 2; x++ {
			row = append(row, api.Rule{Write: r.Intn(2), Move: 2*r.Intn(2) - 1, Next: r.Intn(m.States+1) - 1})
		}
		m.Rules = append(m.Rules, row)
	}
	return m
}

func same(a, b api.Config) bool {
	return a.State == b.State && a.Pos == b.Pos && a.From == b.From && slices.Equal(a.Cells, b.Cells)
}

func TestNumbers(t *testing.T) {
	m := machine(t, "1RB1LB_1LA1RZ")
	c := api.Config{Pos: 12, From: 10, Cells: []int{1, 1, 0, 1}}
	if x, l, r, e := Numbers(m, c); e != api.OK || x != 0 || l != 3 || r != 1 {
		t.Error(x, l, r, e)
	}
	c, e := Centred(m, 0, 1, 2, 0)
	if e != api.OK || !same(c, api.Config{From: -2, Cells: []int{1, 0, 1}}) {
		t.Error(c, e)
	}
	r := rand.New(rand.NewSource(1))
	for i := 0; i < 2000; i++ {
		state, x, left, right := r.Intn(3)-1, r.Intn(2), r.Intn(1<<r.Intn(60)), r.Intn(1<<r.Intn(60))
		c, e := Centred(m, state, x, left, right)
		if e != api.OK || !tape.Fits(m, c) || c.State != state || c.Pos != 0 {
			t.Fatal(c, e)
		}
		moved, _ := tape.Shift(c, r.Intn(100)-50)
		if xx, l, rr, e := Numbers(m, moved); e != api.OK || xx != x || l != left || rr != right {
			t.Fatal(c, xx, l, rr, e)
		}
	}
}

func TestGreatNumbers(t *testing.T) {
	m := machine(t, "1RB1LB_1LA1RZ")
	c, e := Centred(m, api.Stop, 1, api.MaxTotal, api.MaxTotal)
	if e != api.OK || c.From != -61 || len(c.Cells) != 123 {
		t.Error(c, e)
	}
	if x, l, r, e := Numbers(m, c); e != api.OK || x != 1 || l != api.MaxTotal || r != api.MaxTotal {
		t.Error(x, l, r, e)
	}
	for _, c := range []api.Config{{From: -62, Cells: []int{1}}, {From: 62, Cells: []int{1}}, {From: 1, Cells: append(append([]int{1}, make([]int, 59)...), 1)}, {From: -api.MaxPos, Pos: api.MaxPos, Cells: []int{1}}, {From: api.MaxPos, Pos: -api.MaxPos, Cells: []int{1}}} {
		x, l, r, e := Numbers(m, c)
		if e != api.ErrSize || x != 0 || l != 0 || r != 0 {
			t.Error(c, x, l, r, e)
		}
		if _, e := Queue(m, c); e != api.ErrSize {
			t.Error(e)
		}
	}
	for _, list := range [][4]int{{2, 0, 0, 0}, {-2, 0, 0, 0}, {0, 2, 0, 0}, {0, -1, 0, 0}, {0, 0, -1, 0}, {0, 0, 0, -1}, {0, 0, api.MaxTotal + 1, 0}, {0, 0, 0, api.MaxTotal + 1}} {
		if c, e := Centred(m, list[0], list[1], list[2], list[3]); e != api.ErrArg || !reflect.DeepEqual(c, api.Config{}) {
			t.Error(list, c, e)
		}
	}
	for _, n := range []int{20000, 20001} {
		want := api.OK
		if n > 20000 {
			want = api.ErrSize
		}
		left, _ := Centred(m, 0, 0, n, 0)
		right, _ := Centred(m, 0, 0, 0, n)
		_, e1 := Queue(m, left)
		_, e2 := Queue(m, right)
		if e1 != want || e2 != want {
			t.Error(n, e1, e2)
		}
	}
	both, _ := Centred(m, 0, 0, 20000, 20000)
	s, _ := ToTag(m)
	if q, e := Queue(m, both); e != api.OK || !tag.Fits(s, q) {
		t.Error(e)
	}
}

func state(m api.Machine, points []int, c api.Config) api.Count {
	x, l, r, _ := Numbers(m, c)
	s := c.State
	if s == api.Stop {
		s = m.States
	}
	return api.Count{At: points[2*s+x], Regs: []int{l, r}}
}

func checkCounter(t *testing.T, m api.Machine, c, next api.Config) {
	t.Helper()
	p, points, e := ToCounter(m)
	if e != api.OK || !counter.Valid(p) || len(points) != 2*m.States+2 || !slices.IsSorted(points) {
		t.Fatal(p, points, e)
	}
	from, to := state(m, points, c), state(m, points, next)
	total := from.Regs[0] + from.Regs[1]
	for len(from.Regs) < p.Regs {
		from.Regs, to.Regs = append(from.Regs, 0), append(to.Regs, 0)
	}
	got, k, e := counter.Until(p, from, points, 100+20*total)
	if e != api.OK || k < 1 || got.At != to.At || !slices.Equal(got.Regs, to.Regs) {
		t.Fatalf("%v: %v to %v, %d, want %v", m, from, got, e, to)
	}
	if _, e := counter.Step(p, to); (e == api.ErrState) != (next.State == api.Stop) {
		t.Fatal(e)
	}
}

func checkTag(t *testing.T, m api.Machine, c, next api.Config) int {
	t.Helper()
	s, e := ToTag(m)
	if e != api.OK || !tag.Valid(s) || s.Delete != 2 {
		t.Fatal(s, e)
	}
	queue, e1 := Queue(m, c)
	want, e2 := Queue(m, next)
	if e1 != api.OK || e2 != api.OK {
		t.Fatal(e1, e2)
	}
	_, l, r, _ := Numbers(m, c)
	for k := 1; k <= 100+20*(l+r); k++ {
		if queue, e = tag.Step(s, queue); e != api.OK {
			t.Fatal(e)
		}
		got, ok, e := Config(m, queue)
		if e != api.OK || !ok && !reflect.DeepEqual(got, api.Config{}) {
			t.Fatal(got, e)
		}
		if ok {
			shifted, _ := tape.Shift(next, -next.Pos)
			if !slices.Equal(queue, want) || !same(got, shifted) {
				t.Fatalf("%v: %v leads to %v, want %v", m, c, got, next)
			}
			if _, e := tag.Step(s, queue); (e == api.ErrState) != (next.State == api.Stop) {
				t.Fatal(e)
			}
			return k
		}
	}
	t.Fatalf("%v: %v leads nowhere", m, c)
	return 0
}

func TestSteps(t *testing.T) {
	r := rand.New(rand.NewSource(2))
	for i := 0; i < 1500; i++ {
		m := anyMachine(r)
		c, e := Centred(m, r.Intn(m.States), r.Intn(2), r.Intn(1+r.Intn(30)), r.Intn(1+r.Intn(30)))
		if e != api.OK {
			t.Fatal(e)
		}
		c, _ = tape.Shift(c, r.Intn(9)-4)
		next, _ := tape.Step(m, c)
		checkCounter(t, m, c, next)
		checkTag(t, m, c, next)
	}
}

func TestGreatSteps(t *testing.T) {
	for _, text := range []string{"0RA1RB_1LA1RA", "1RB1LA_1LA1LA"} {
		m := machine(t, text)
		s, _ := ToTag(m)
		for x := range 2 {
			c, _ := Centred(m, 0, x, 9999, 9998)
			next, _ := tape.Step(m, c)
			checkCounter(t, m, c, next)
			queue, _ := Queue(m, c)
			want, e := Queue(m, next)
			if e != api.OK {
				t.Fatal(e)
			}
			k := 0
			for ; k < 100+20*(9999+9998) && (queue[0] != want[0] || !slices.Equal(queue, want)); k++ {
				queue = append(queue, s.Rules[queue[0]]...)[2:]
				if len(queue) > api.MaxQueue {
					t.Fatal("too long")
				}
			}
			if !slices.Equal(queue, want) {
				t.Fatalf("%s, %d: not after %d steps", text, x, k)
			}
		}
	}
}

func TestRuns(t *testing.T) {
	for _, text := range []string{"1RB1LB_1LA1RZ", "1RB1RZ_1LB0RC_1LC1LA", "1RB0LB_1LA0RB", "0RA0RA", "1LA1LZ"} {
		m := machine(t, text)
		s, _ := ToTag(m)
		cyclic, _ := tag.ToCyclic(s)
		c := api.Config{}
		queue, _ := Queue(m, c)
		bits, _ := tag.Bits(s, queue)
		w := api.Wheel{Queue: bits}
		for range 6 {
			next, e := tape.Step(m, c)
			if e != api.OK {
				break
			}
			steps := checkTag(t, m, c, next)
			var k int
			w, k, e = tag.Roll(cyclic, w, steps*2*len(s.Rules))
			want, _ := Queue(m, next)
			bits, _ = tag.Bits(s, want)
			if e != api.OK || k != steps*2*len(s.Rules) || w.At != 0 || !slices.Equal(w.Queue, bits) {
				t.Fatalf("%s: the cyclic system leads elsewhere", text)
			}
			c = next
		}
	}
}

func TestQueues(t *testing.T) {
	r := rand.New(rand.NewSource(3))
	for i := 0; i < 500; i++ {
		m := anyMachine(r)
		c, _ := Centred(m, r.Intn(m.States+1)-1, r.Intn(2), r.Intn(1+r.Intn(50)), r.Intn(1+r.Intn(50)))
		q, e := Queue(m, c)
		back, ok, f := Config(m, q)
		if e != api.OK || f != api.OK || !ok || !same(back, c) {
			t.Fatal(c, back, e, f)
		}
		s, _ := ToTag(m)
		q[r.Intn(len(q))] = r.Intn(len(s.Rules))
		if back, ok, e := Config(m, q); e != api.OK {
			t.Fatal(e)
		} else if again, _ := Queue(m, back); ok && !slices.Equal(again, q) {
			t.Fatal(q, back)
		}
		for _, short := range [][]int{q[:len(q)-1], q[2:], nil} {
			if back, ok, _ := Config(m, short); ok {
				if again, _ := Queue(m, back); !slices.Equal(again, short) {
					t.Fatal(short, back)
				}
			}
		}
	}
}

func TestInvalid(t *testing.T) {
	three := machine(t, "1RB2LA1RZ_2LA1RB0RA")
	errors := func(m api.Machine, c api.Config, queue []int) []api.Errno {
		_, _, _, e1 := Numbers(m, c)
		_, e2 := Queue(m, c)
		_, _, e3 := Config(m, queue)
		return []api.Errno{e1, e2, e3}
	}
	_, e1 := Centred(three, 9, 0, 0, 0)
	_, _, e2 := ToCounter(three)
	_, e3 := ToTag(three)
	for _, e := range append(errors(three, api.Config{}, nil), e1, e2, e3) {
		if e != api.ErrArg {
			t.Error(e)
		}
	}
	_, e1 = Centred(api.Machine{}, 9, 0, 0, 0)
	_, _, e2 = ToCounter(api.Machine{})
	_, e3 = ToTag(api.Machine{})
	for _, e := range append(errors(api.Machine{}, api.Config{}, nil), e1, e2, e3) {
		if e != api.ErrForm {
			t.Error(e)
		}
	}
	m := machine(t, "1RB1LB_1LA1RZ")
	s, _ := ToTag(m)
	for _, e := range slices.Concat(errors(m, api.Config{State: 2}, []int{len(s.Rules)}), errors(m, api.Config{Cells: []int{2}}, []int{-1}), errors(m, api.Config{From: 1}, make([]int, api.MaxQueue+1))) {
		if e != api.ErrForm {
			t.Error(e)
		}
	}
	if _, _, _, e := Numbers(three, api.Config{State: 2}); e != api.ErrForm {
		t.Error(e)
	}
}
