package counter

import (
	"math"
	"math/rand"
	"slices"
	"testing"

	"standstill/api"
)

func mover() api.Counter {
	return api.Counter{Regs: 2, Code: []api.Inst{{Op: api.Dec, Next: 1, Zero: 2}, {Op: api.Inc, Reg: 1}, {Op: api.Halt}}}
}

func anyCounter(r *rand.Rand) api.Counter {
	p := api.Counter{Regs: 1 + r.Intn(4)}
	n := 1 + r.Intn(8)
	for range n {
		switch r.Intn(7) {
		case 0:
			p.Code = append(p.Code, api.Inst{Op: api.Halt})
		case 1, 2, 3:
			p.Code = append(p.Code, api.Inst{Op: api.Inc, Reg: r.Intn(p.Regs), Next: r.Intn(n)})
		default:
			p.Code = append(p.Code, api.Inst{Op: api.Dec, Reg: r.Intn(p.Regs), Next: r.Intn(n), Zero: r.Intn(n)})
		}
	}
	return p
}

func anyCount(r *rand.Rand, p api.Counter) api.Count {
	c := api.Count{At: r.Intn(len(p.Code))}
	for range p.Regs {
		c.Regs = append(c.Regs, r.Intn(5))
	}
	return c
}

func same(a, b api.Count) bool {
	return a.At == b.At && slices.Equal(a.Regs, b.Regs)
}

// slow does a step; false at a Halt.
func slow(p api.Counter, c api.Count) (api.Count, bool) {
	i := p.Code[c.At]
	out := api.Count{Regs: slices.Clone(c.Regs)}
	switch {
	case i.Op == api.Halt:
		return c, false
	case i.Op == api.Inc:
		out.Regs[i.Reg]++
		out.At = i.Next
	case c.Regs[i.Reg] == 0:
		out.At = i.Zero
	default:
		out.Regs[i.Reg]--
		out.At = i.Next
	}
	return out, true
}

func TestExample(t *testing.T) {
	c, n, e := Run(mover(), api.Count{Regs: []int{3, 4}}, 100)
	if e != api.OK || n != 7 || !same(c, api.Count{At: 2, Regs: []int{0, 7}}) {
		t.Error(c, n, e)
	}
}

func TestRuns(t *testing.T) {
	r := rand.New(rand.NewSource(1))
	for i := 0; i < 1000; i++ {
		p := anyCounter(r)
		c := anyCount(r, p)
		want, goes := c, true
		steps := 0
		for n := 0; n < 40; n++ {
			got, k, e := Run(p, c, n)
			if e != api.OK || k != steps || !same(got, want) || !Fits(p, got) {
				t.Fatalf("%v from %v, %d: %v, want %v", p, c, n, got, want)
			}
			next, e := Step(p, want)
			if want, goes = slow(p, want); goes {
				steps++
				if e != api.OK || !same(next, want) {
					t.Fatal(next, want, e)
				}
			} else if e != api.ErrState || next.Regs != nil {
				t.Fatal(next, e)
			}
		}
		n, k := r.Intn(30), r.Intn(30)
		first, a, _ := Run(p, c, n)
		second, b, _ := Run(p, first, k)
		if all, ab, _ := Run(p, c, n+k); !same(second, all) || a+b != ab {
			t.Fatalf("%v from %v: %v and %v", p, c, second, all)
		}
		checkNames(t, r, p, c)
	}
}

// checkNames renames the registers, with one more that no instruction names.
func checkNames(t *testing.T, r *rand.Rand, p api.Counter, c api.Count) {
	t.Helper()
	names := r.Perm(p.Regs + 1)
	q := api.Counter{Regs: p.Regs + 1}
	for _, i := range p.Code {
		if i.Op != api.Halt {
			i.Reg = names[i.Reg]
		}
		q.Code = append(q.Code, i)
	}
	rename := func(c api.Count) api.Count {
		out := api.Count{At: c.At, Regs: make([]int, q.Regs)}
		for reg, x := range c.Regs {
			out.Regs[names[reg]] = x
		}
		out.Regs[names[p.Regs]] = 77
		return out
	}
	a, n, _ := Run(p, c, 30)
	b, k, e := Run(q, rename(c), 30)
	if e != api.OK || n != k || !same(rename(a), b) {
		t.Fatalf("%v from %v: %v, renamed %v", p, c, a, b)
	}
}

func TestUntil(t *testing.T) {
	r := rand.New(rand.NewSource(2))
	for i := 0; i < 1000; i++ {
		p := anyCounter(r)
		c := anyCount(r, p)
		var points []int
		for at := range p.Code {
			if r.Intn(4) == 0 {
				points = append(points, at)
			}
		}
		n := 1 + r.Intn(20)
		got, k, e := Until(p, c, points, n)
		want, steps, goes := c, 0, true
		for steps < n {
			if want, goes = slow(p, want); !goes {
				break
			}
			if steps++; slices.Contains(points, want.At) {
				break
			}
		}
		if steps > 0 && slices.Contains(points, want.At) && goes {
			if e != api.OK || k != steps || !same(got, want) {
				t.Fatalf("%v from %v: %v, %d, want %v", p, c, got, e, want)
			}
		} else if e != api.ErrNone || k != 0 || got.Regs != nil {
			t.Fatalf("%v from %v: %v, %d", p, c, got, e)
		}
	}
	// At the beginning it is not yet at a point.
	p := mover()
	if _, k, e := Until(p, api.Count{Regs: []int{1, 0}}, []int{0}, 9); e != api.OK || k != 2 {
		t.Error(k, e)
	}
	if _, _, e := Until(p, api.Count{At: 2, Regs: []int{1, 0}}, []int{2}, 9); e != api.ErrNone {
		t.Error(e)
	}
	if _, _, e := Until(p, api.Count{Regs: []int{1, 0}}, nil, 9); e != api.ErrNone {
		t.Error(e)
	}
}

func TestJoin(t *testing.T) {
	r := rand.New(rand.NewSource(3))
	for i := 0; i < 3000; i++ {
		a, b := anyCounter(r), anyCounter(r)
		p, e := Join(a, b)
		if e != api.OK || !Valid(p) || p.Regs != max(a.Regs, b.Regs) {
			t.Fatal(p, e)
		}
		c := api.Count{Regs: make([]int, p.Regs)}
		for reg := range c.Regs {
			c.Regs[reg] = r.Intn(5)
		}
		a.Regs, b.Regs = p.Regs, p.Regs
		first, n, _ := Run(a, c, 50)
		if a.Code[first.At].Op != api.Halt {
			got, k, _ := Run(p, c, 50)
			if k != n || !same(got, first) {
				t.Fatal(got, first)
			}
			continue
		}
		second, k, _ := Run(b, api.Count{Regs: first.Regs}, 50)
		got, all, _ := Run(p, c, n+k+2)
		if all != n+k+2 || !slices.Equal(got.Regs, second.Regs) || got.At-len(p.Code) != second.At-len(b.Code) || p.Code[got.At].Op != b.Code[second.At].Op {
			t.Fatalf("%v: %v, want %v", p, got, second)
		}
	}
	p, e := Join(mover(), mover())
	want := []api.Inst{{Op: api.Dec, Next: 1, Zero: 2}, {Op: api.Inc, Reg: 1}, {Op: api.Inc, Next: 3}, {Op: api.Dec, Next: 4, Zero: 4},
		{Op: api.Dec, Next: 5, Zero: 6}, {Op: api.Inc, Reg: 1, Next: 4}, {Op: api.Halt}}
	if e != api.OK || !slices.Equal(p.Code, want) {
		t.Error(p, e)
	}
	endless := api.Counter{Regs: 3, Code: []api.Inst{{Op: api.Inc}}}
	if p, e = Join(endless, mover()); e != api.OK || len(p.Code) != 4 || p.Regs != 3 || p.Code[1].Next != 2 {
		t.Error(p, e)
	}
	long := api.Counter{Regs: 1, Code: slices.Repeat([]api.Inst{{Op: api.Inc}}, api.MaxCode-1)}
	if p, e = Join(long, endless); e != api.OK || len(p.Code) != api.MaxCode {
		t.Error(e)
	}
	if p, e = Join(long, mover()); e != api.ErrSize || p.Code != nil {
		t.Error(e)
	}
	long.Code[0] = api.Inst{Op: api.Halt}
	if _, e = Join(long, endless); e != api.ErrSize {
		t.Error(e)
	}
}

func TestSize(t *testing.T) {
	p := api.Counter{Regs: 1, Code: []api.Inst{{Op: api.Inc}}}
	full := api.Count{Regs: []int{api.MaxTotal}}
	if c, e := Step(p, full); e != api.ErrSize || c.Regs != nil {
		t.Error(c, e)
	}
	if c, k, e := Run(p, api.Count{Regs: []int{api.MaxTotal - 1}}, 1); e != api.OK || k != 1 || c.Regs[0] != api.MaxTotal {
		t.Error(c, e)
	}
	if c, k, e := Run(p, api.Count{Regs: []int{api.MaxTotal - 1}}, 2); e != api.ErrSize || k != 0 || c.Regs != nil {
		t.Error(c, e)
	}
	if _, _, e := Until(p, full, []int{0}, 1); e != api.ErrSize {
		t.Error(e)
	}
	if _, k, e := Run(p, api.Count{Regs: []int{0}}, api.MaxSteps); e != api.OK || k != api.MaxSteps {
		t.Error(k, e)
	}
}

func TestInvalid(t *testing.T) {
	change := func(f func(p *api.Counter)) api.Counter {
		p := mover()
		f(&p)
		return p
	}
	bad := []api.Counter{
		{}, {Regs: 1},
		change(func(p *api.Counter) { p.Regs = 0 }),
		change(func(p *api.Counter) { p.Regs = 1 }),
		change(func(p *api.Counter) { p.Regs = api.MaxRegs + 1 }),
		change(func(p *api.Counter) { p.Code[0].Op = 3 }),
		change(func(p *api.Counter) { p.Code[0].Op = -1 }),
		change(func(p *api.Counter) { p.Code[0].Reg = -1 }),
		change(func(p *api.Counter) { p.Code[0].Next = 3 }),
		change(func(p *api.Counter) { p.Code[0].Next = -1 }),
		change(func(p *api.Counter) { p.Code[0].Zero = 3 }),
		change(func(p *api.Counter) { p.Code[1].Next = 3 }),
		change(func(p *api.Counter) { p.Code[1].Zero = 1 }),
		change(func(p *api.Counter) { p.Code[2].Zero = 1 }),
		change(func(p *api.Counter) { p.Code[2].Next = 1 }),
		change(func(p *api.Counter) { p.Code[2].Reg = 1 }),
		change(func(p *api.Counter) { p.Code = slices.Repeat([]api.Inst{{Op: api.Halt}}, api.MaxCode+1) }),
	}
	c := api.Count{Regs: []int{1, 2}}
	for _, p := range bad {
		_, e1 := Step(p, c)
		_, _, e2 := Run(p, c, -1)
		_, _, e3 := Until(p, c, nil, -1)
		_, e4 := Join(p, mover())
		_, e5 := Join(mover(), p)
		if Valid(p) || Fits(p, c) || !slices.Equal([]api.Errno{e1, e2, e3, e4, e5}, slices.Repeat([]api.Errno{api.ErrForm}, 5)) {
			t.Errorf("%v: %d %d %d %d %d", p, e1, e2, e3, e4, e5)
		}
	}
	for _, c := range []api.Count{{}, {Regs: []int{1}}, {Regs: []int{1, 2, 3}}, {At: 3, Regs: []int{1, 2}}, {At: -1, Regs: []int{1, 2}}, {Regs: []int{-1, 2}}, {Regs: []int{1, api.MaxTotal + 1}}} {
		if _, e := Step(mover(), c); Fits(mover(), c) || e != api.ErrForm {
			t.Error(c, e)
		}
	}
	if !Valid(mover()) || !Fits(mover(), c) {
		t.Error("not valid")
	}
	for _, n := range []int{-1, api.MaxSteps + 1, math.MinInt} {
		if _, _, e := Run(mover(), c, n); e != api.ErrArg {
			t.Error(n, e)
		}
		if _, _, e := Until(mover(), c, nil, n); e != api.ErrArg {
			t.Error(n, e)
		}
	}
	if _, _, e := Until(mover(), c, nil, 0); e != api.ErrArg {
		t.Error(e)
	}
	for _, points := range [][]int{{3}, {-1}, {1, 1}, {1, 0}} {
		if _, _, e := Until(mover(), c, points, 1); e != api.ErrArg {
			t.Error(points, e)
		}
	}
}

func TestArgumentsAreKept(t *testing.T) {
	c := api.Count{Regs: []int{1, 2}}
	out, _, _ := Run(mover(), c, 0)
	out.Regs[0] = 9
	Run(mover(), c, 5)
	if !slices.Equal(c.Regs, []int{1, 2}) {
		t.Error(c)
	}
}
