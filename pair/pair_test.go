package pair

import (
	"math"
	"math/rand"
	"slices"
	"testing"

	"standstill/api"
	"standstill/counter"
)

func anyCounter(r *rand.Rand, n int) api.Counter {
	p := api.Counter{Regs: 1 + r.Intn(6)}
	for range n {
		switch r.Intn(7) {
		case 0:
			p.Code = append(p.Code, api.Inst{Op: api.Halt})
		case 1, 2, 3:
			p.Code = append(p.Code, api.Inst{Op: api.Inc, Reg: r.Intn(p.Regs), Next: r.Intn(n)})
		default:
			p.Code = append(p.Code, api.Inst{Op: api.Dec, Reg: r.Intn(p.Regs), Next: r.Intn(n), Zero: r.Intn(n)})
		}
	}
	return p
}

func TestExamples(t *testing.T) {
	if n, e := Encode([]int{3, 1}); e != api.OK || n != 24 {
		t.Error(n, e)
	}
	if c, e := Decode(24, 2); e != api.OK || !slices.Equal(c, []int{3, 1}) {
		t.Error(c, e)
	}
	if c, e := Decode(10, 2); e != api.ErrNone || c != nil {
		t.Error(c, e)
	}
}

func TestEncoding(t *testing.T) {
	r := rand.New(rand.NewSource(1))
	for i := 0; i < 2000; i++ {
		var regs []int
		for range 1 + r.Intn(6) {
			regs = append(regs, r.Intn(5))
		}
		n, e := Encode(regs)
		if back, f := Decode(n, len(regs)); e != api.OK || f != api.OK || !slices.Equal(back, regs) {
			t.Fatal(regs, n, back)
		}
	}
	if n, e := Encode([]int{60}); e != api.OK || n != api.MaxTotal {
		t.Error(n, e)
	}
	for _, regs := range [][]int{{61}, {60, 1}, {0, 38}, {math.MaxInt}, {0, 0, 0, 0, 0, math.MaxInt}, {math.MaxInt, math.MaxInt}} {
		if n, e := Encode(regs); e != api.ErrSize || n != 0 {
			t.Error(regs, n, e)
		}
	}
	for _, regs := range [][]int{nil, {-1}, {61, -1}, make([]int, 7)} {
		if n, e := Encode(regs); e != api.ErrArg || n != 0 {
			t.Error(regs, n, e)
		}
	}
	for _, c := range [][2]int{{0, 1}, {-1, 1}, {api.MaxTotal + 1, 1}, {1, 0}, {1, 7}, {math.MinInt, math.MinInt}} {
		if regs, e := Decode(c[0], c[1]); e != api.ErrArg || regs != nil {
			t.Error(c, e)
		}
	}
	if regs, e := Decode(api.MaxTotal, 6); e != api.OK || regs[0] != 60 {
		t.Error(regs, e)
	}
	if _, e := Decode(17, 6); e != api.ErrNone {
		t.Error(e)
	}
}

// checkStep compares a step with the one of the simulation.
func checkStep(t *testing.T, p, two api.Counter, points []int, c api.Count) {
	t.Helper()
	n, e := Encode(c.Regs)
	if e != api.OK {
		t.Fatal(e)
	}
	at := api.Count{At: points[c.At], Regs: []int{n, 0}}
	next, e := counter.Step(p, c)
	if e == api.ErrState {
		if _, e := counter.Step(two, at); e != api.ErrState {
			t.Fatal(e)
		}
		return
	}
	after, _ := Encode(next.Regs)
	got, k, e := counter.Until(two, at, points, api.MaxSteps)
	if e != api.OK || !slices.Equal(got.Regs, []int{after, 0}) || got.At != points[next.At] || k > 100+100*max(n, after) {
		t.Fatalf("%v from %v: %v after %d steps, want %v", p, c, got, k, next)
	}
}

func TestSteps(t *testing.T) {
	r := rand.New(rand.NewSource(2))
	for i := 0; i < 1000; i++ {
		p := anyCounter(r, 1+r.Intn(10))
		two, points, e := Two(p)
		if e != api.OK || !counter.Valid(two) || two.Regs != 2 || len(points) != len(p.Code) || points[0] != 0 {
			t.Fatal(two, points, e)
		}
		for at, point := range points {
			if at > 0 && points[at-1] >= point || (two.Code[point].Op == api.Halt) != (p.Code[at].Op == api.Halt) {
				t.Fatal(p, points)
			}
		}
		for range 20 {
			c := api.Count{At: r.Intn(len(p.Code)), Regs: make([]int, p.Regs)}
			for range 4 {
				c.Regs[r.Intn(p.Regs)]++
			}
			checkStep(t, p, two, points, c)
		}
	}
}

func TestStop(t *testing.T) {
	mover := api.Counter{Regs: 2, Code: []api.Inst{{Op: api.Dec, Next: 1, Zero: 2}, {Op: api.Inc, Reg: 1}, {Op: api.Halt}}}
	two, points, _ := Two(mover)
	c, k, e := counter.Run(two, api.Count{Regs: []int{8 * 81, 0}}, api.MaxSteps)
	want, _ := Encode([]int{0, 7})
	if e != api.OK || k == api.MaxSteps || c.At != points[2] || !slices.Equal(c.Regs, []int{want, 0}) {
		t.Error(c, k, e)
	}
	endless := api.Counter{Regs: 1, Code: []api.Inst{{Op: api.Dec}}}
	two, _, _ = Two(endless)
	if _, k, e := counter.Run(two, api.Count{Regs: []int{4, 0}}, api.MaxSteps); e != api.OK || k != api.MaxSteps {
		t.Error(k, e)
	}
}

func TestSize(t *testing.T) {
	last := api.Inst{Op: api.Dec, Reg: 5}
	p := api.Counter{Regs: 6, Code: slices.Repeat([]api.Inst{last}, 40)}
	two, points, e := Two(p)
	if e != api.OK || len(two.Code) > api.MaxCode || len(points) != 40 {
		t.Error(e)
	}
	p.Code = slices.Repeat([]api.Inst{last}, api.MaxCode)
	if two, points, e := Two(p); e != api.ErrSize || two.Code != nil || points != nil {
		t.Error(e)
	}
	p.Code = slices.Repeat([]api.Inst{{Op: api.Halt}}, api.MaxCode)
	if two, points, e := Two(p); e != api.OK || len(two.Code) != api.MaxCode || len(points) != api.MaxCode {
		t.Error(e)
	}
}

func TestInvalid(t *testing.T) {
	if _, _, e := Two(api.Counter{}); e != api.ErrForm {
		t.Error(e)
	}
	seven := api.Counter{Regs: 7, Code: slices.Repeat([]api.Inst{{Op: api.Inc}}, api.MaxCode)}
	if two, points, e := Two(seven); e != api.ErrArg || two.Code != nil || points != nil {
		t.Error(e)
	}
}
