package tag

import (
	"math"
	"math/rand"
	"slices"
	"testing"

	"standstill/api"
)

func example() api.Tag {
	return api.Tag{Delete: 2, Rules: [][]int{{1, 2}, {0}, {0, 0, 0}}, Stops: make([]bool, 3)}
}

func anyTag(r *rand.Rand) api.Tag {
	t := api.Tag{Delete: 1 + r.Intn(api.MaxDelete)}
	n := 1 + r.Intn(6)
	for range n {
		t.Rules = append(t.Rules, anyWord(r, n, r.Intn(7)))
		t.Stops = append(t.Stops, r.Intn(8) == 0)
	}
	return t
}

func anyWord(r *rand.Rand, below, n int) []int {
	var out []int
	for range n {
		out = append(out, r.Intn(below))
	}
	return out
}

func slow(t api.Tag, queue []int) ([]int, bool) {
	if len(queue) < t.Delete || t.Stops[queue[0]] {
		return queue, false
	}
	return slices.Concat(queue, t.Rules[queue[0]])[t.Delete:], true
}

func TestExamples(t *testing.T) {
	queue := []int{0, 0, 0}
	for _, want := range [][]int{{0, 1, 2}, {2, 1, 2}, {2, 0, 0, 0}, {0, 0, 0, 0, 0}} {
		next, e := Step(example(), queue)
		if e != api.OK || !slices.Equal(next, want) {
			t.Fatal(next, e)
		}
		queue = next
	}
	c, e := ToCyclic(example())
	want := [][]int{{0, 1, 0, 0, 0, 1}, {1, 0, 0}, {1, 0, 0, 1, 0, 0, 1, 0, 0}, nil, nil, nil}
	if e != api.OK || !slices.EqualFunc(c.Words, want, slices.Equal[[]int]) {
		t.Error(c, e)
	}
}

func TestRuns(t *testing.T) {
	r := rand.New(rand.NewSource(1))
	for i := 0; i < 1000; i++ {
		s := anyTag(r)
		queue := anyWord(r, len(s.Rules), r.Intn(10))
		want, steps := queue, 0
		for n := 0; n < 40; n++ {
			got, k, e := Run(s, queue, n)
			if e != api.OK || k != steps || !slices.Equal(got, want) {
				t.Fatalf("%v from %v, %d: %v, want %v", s, queue, n, got, want)
			}
			next, goes := slow(s, want)
			one, e := Step(s, want)
			if goes && (e != api.OK || !slices.Equal(one, next) || len(one) != len(want)+len(s.Rules[want[0]])-s.Delete) {
				t.Fatalf("%v from %v: %v, want %v", s, want, one, next)
			}
			if !goes && (e != api.ErrState || one != nil) {
				t.Fatalf("%v from %v: %v, %d", s, want, one, e)
			}
			if goes {
				steps++
			}
			want = next
		}
		n, k := r.Intn(30), r.Intn(30)
		first, a, _ := Run(s, queue, n)
		second, b, _ := Run(s, first, k)
		if all, ab, _ := Run(s, queue, n+k); !slices.Equal(second, all) || a+b != ab {
			t.Fatal(second, all)
		}
	}
}

func TestNames(t *testing.T) {
	r := rand.New(rand.NewSource(2))
	for i := 0; i < 300; i++ {
		s := anyTag(r)
		names := r.Perm(len(s.Rules))
		rename := func(word []int) []int {
			var out []int
			for _, x := range word {
				out = append(out, names[x])
			}
			return out
		}
		o := api.Tag{Delete: s.Delete, Rules: make([][]int, len(s.Rules)), Stops: make([]bool, len(s.Rules))}
		for x, word := range s.Rules {
			o.Rules[names[x]] = rename(word)
			o.Stops[names[x]] = s.Stops[x]
		}
		queue := anyWord(r, len(s.Rules), 8)
		a, n, _ := Run(s, queue, 30)
		b, k, e := Run(o, rename(queue), 30)
		if e != api.OK || n != k || !slices.Equal(rename(a), b) {
			t.Fatal(a, b)
		}
	}
}

func TestCyclic(t *testing.T) {
	r := rand.New(rand.NewSource(3))
	for i := 0; i < 1000; i++ {
		s := anyTag(r)
		queue := anyWord(r, len(s.Rules), r.Intn(10))
		c, e := ToCyclic(s)
		if e != api.OK || !ValidCyclic(c) || len(c.Words) != s.Delete*len(s.Rules) {
			t.Fatal(c, e)
		}
		bits, e := Bits(s, queue)
		if back, f := Letters(s, bits); e != api.OK || f != api.OK || !slices.Equal(back, queue) {
			t.Fatal(bits, back)
		}
		next, e := Step(s, queue)
		if e != api.OK {
			continue
		}
		want, _ := Bits(s, next)
		w, k, e := Roll(c, api.Wheel{Queue: bits}, s.Delete*len(s.Rules))
		if e != api.OK || k != s.Delete*len(s.Rules) || w.At != 0 || !slices.Equal(w.Queue, want) {
			t.Fatalf("%v from %v: %v, want %v", s, queue, w, want)
		}
	}
}

func TestRoll(t *testing.T) {
	r := rand.New(rand.NewSource(4))
	for i := 0; i < 500; i++ {
		var c api.Cyclic
		for range 1 + r.Intn(4) {
			c.Words = append(c.Words, anyWord(r, 2, r.Intn(5)))
		}
		w := api.Wheel{At: r.Intn(len(c.Words)), Queue: anyWord(r, 2, r.Intn(8))}
		want, steps := w, 0
		for n := 0; n < 30; n++ {
			got, k, e := Roll(c, w, n)
			if e != api.OK || k != steps || got.At != want.At || !slices.Equal(got.Queue, want.Queue) || !FitsCyclic(c, got) {
				t.Fatalf("%v from %v, %d: %v, want %v", c, w, n, got, want)
			}
			one, e := Turn(c, want)
			if len(want.Queue) == 0 {
				if e != api.ErrState || one.Queue != nil {
					t.Fatal(one, e)
				}
				continue
			}
			next := slices.Clone(want.Queue[1:])
			if want.Queue[0] == 1 {
				next = append(next, c.Words[want.At]...)
			}
			want = api.Wheel{At: (want.At + 1) % len(c.Words), Queue: next}
			steps++
			if e != api.OK || one.At != want.At || !slices.Equal(one.Queue, want.Queue) {
				t.Fatal(one, want)
			}
		}
		n, k := r.Intn(30), r.Intn(30)
		first, a, _ := Roll(c, w, n)
		second, b, _ := Roll(c, first, k)
		if all, ab, _ := Roll(c, w, n+k); second.At != all.At || !slices.Equal(second.Queue, all.Queue) || a+b != ab {
			t.Fatal(second, all)
		}
	}
}

func TestSize(t *testing.T) {
	grow := api.Tag{Delete: 1, Rules: [][]int{{0, 0}}, Stops: []bool{false}}
	full := make([]int, api.MaxQueue)
	if q, e := Step(grow, full); e != api.ErrSize || q != nil {
		t.Error(e)
	}
	if q, e := Step(grow, full[1:]); e != api.OK || len(q) != api.MaxQueue {
		t.Error(e)
	}
	if q, k, e := Run(grow, []int{0}, api.MaxQueue); e != api.ErrSize || k != 0 || q != nil {
		t.Error(k, e)
	}
	if q, k, e := Run(grow, []int{0}, api.MaxQueue-1); e != api.OK || k != api.MaxQueue-1 || len(q) != api.MaxQueue {
		t.Error(k, e)
	}
	same := api.Tag{Delete: 1, Rules: [][]int{{0}}, Stops: []bool{false}}
	if q, k, e := Run(same, full, api.MaxSteps); e != api.OK || k != api.MaxSteps || len(q) != api.MaxQueue {
		t.Error(k, e)
	}
	// A rule may be longer than the limit allows as long as enough is deleted.
	drop := api.Tag{Delete: 4, Rules: [][]int{{0, 0, 0, 0}}, Stops: []bool{false}}
	if q, e := Step(drop, full); e != api.OK || len(q) != api.MaxQueue {
		t.Error(e)
	}
	c := api.Cyclic{Words: [][]int{{1, 1}}}
	bits := slices.Repeat([]int{1}, 10*api.MaxQueue)
	if w, e := Turn(c, api.Wheel{Queue: bits}); e != api.ErrSize || w.Queue != nil {
		t.Error(e)
	}
	if w, e := Turn(c, api.Wheel{Queue: bits[1:]}); e != api.OK || len(w.Queue) != 10*api.MaxQueue {
		t.Error(e)
	}
	many := api.Tag{Delete: 1, Rules: make([][]int, 11), Stops: make([]bool, 11)}
	if b, e := Bits(many, full); e != api.ErrSize || b != nil {
		t.Error(e)
	}
	if b, e := Bits(many, full[:10*api.MaxQueue/11]); e != api.OK || len(b) > 10*api.MaxQueue {
		t.Error(e)
	}
	one := api.Tag{Delete: 4, Rules: [][]int{nil}, Stops: []bool{true}}
	if c, e := ToCyclic(one); e != api.OK || len(c.Words) != 4 {
		t.Error(c, e)
	}
}

func TestStopsCountAsEmpty(t *testing.T) {
	s := example()
	s.Stops[2] = true
	c, e := ToCyclic(s)
	if e != api.OK || len(c.Words[2]) != 0 || len(c.Words[1]) != 3 {
		t.Error(c, e)
	}
	if _, e := Step(s, []int{2, 0, 0}); e != api.ErrState {
		t.Error(e)
	}
	if _, e := Step(s, []int{0}); e != api.ErrState {
		t.Error(e)
	}
	if q, k, e := Run(s, []int{0}, 5); e != api.OK || k != 0 || !slices.Equal(q, []int{0}) {
		t.Error(q, k, e)
	}
}

func TestInvalid(t *testing.T) {
	change := func(f func(s *api.Tag)) api.Tag {
		s := example()
		f(&s)
		return s
	}
	bad := []api.Tag{
		{}, {Delete: 1},
		change(func(s *api.Tag) { s.Delete = 0 }),
		change(func(s *api.Tag) { s.Delete = api.MaxDelete + 1 }),
		change(func(s *api.Tag) { s.Stops = s.Stops[1:] }),
		change(func(s *api.Tag) { s.Rules[0] = []int{3} }),
		change(func(s *api.Tag) { s.Rules[0] = []int{-1} }),
		change(func(s *api.Tag) { s.Rules[0] = make([]int, api.MaxWord+1) }),
		change(func(s *api.Tag) {
			s.Rules, s.Stops = make([][]int, api.MaxLetters+1), make([]bool, api.MaxLetters+1)
		}),
	}
	for _, s := range bad {
		_, e1 := Step(s, nil)
		_, _, e2 := Run(s, nil, -1)
		_, e3 := Bits(s, nil)
		_, e4 := Letters(s, []int{7})
		_, e5 := ToCyclic(s)
		if Valid(s) || Fits(s, nil) || !slices.Equal([]api.Errno{e1, e2, e3, e4, e5}, slices.Repeat([]api.Errno{api.ErrForm}, 5)) {
			t.Errorf("%v: %d %d %d %d %d", s, e1, e2, e3, e4, e5)
		}
	}
	for _, q := range [][]int{{3}, {-1}, make([]int, api.MaxQueue+1)} {
		_, e1 := Step(example(), q)
		_, e2 := Bits(example(), q)
		if Fits(example(), q) || e1 != api.ErrForm || e2 != api.ErrForm {
			t.Error(e1, e2)
		}
	}
	if !Valid(example()) || !Fits(example(), []int{2}) {
		t.Error("not valid")
	}
	good := api.Cyclic{Words: [][]int{{1}}}
	for _, c := range []api.Cyclic{{}, {Words: [][]int{{2}}}, {Words: [][]int{{-1}}}, {Words: make([][]int, maxCyclicWords+1)}, {Words: [][]int{make([]int, maxCyclicWord+1)}}} {
		_, e1 := Turn(c, api.Wheel{})
		_, _, e2 := Roll(c, api.Wheel{}, -1)
		if ValidCyclic(c) || FitsCyclic(c, api.Wheel{}) || e1 != api.ErrForm || e2 != api.ErrForm {
			t.Error(e1, e2)
		}
	}
	for _, w := range []api.Wheel{{At: 1}, {At: -1}, {Queue: []int{2}}, {Queue: make([]int, maxBits+1)}} {
		if _, e := Turn(good, w); FitsCyclic(good, w) || e != api.ErrForm {
			t.Error(e)
		}
	}
	if !ValidCyclic(api.Cyclic{Words: [][]int{make([]int, maxCyclicWord)}}) || !FitsCyclic(good, api.Wheel{}) {
		t.Error("not valid")
	}
	for _, n := range []int{-1, api.MaxSteps + 1, math.MaxInt} {
		_, _, e1 := Run(example(), nil, n)
		_, _, e2 := Roll(good, api.Wheel{}, n)
		if e1 != api.ErrArg || e2 != api.ErrArg {
			t.Error(e1, e2)
		}
	}
	for _, bits := range [][]int{{1}, {1, 0}, {0, 0, 0}, {1, 1, 0}, {2, 0, 0}, {1, 0, -1}, {1, 0, 0, 0}} {
		if q, e := Letters(example(), bits); e != api.ErrArg || q != nil {
			t.Error(bits, e)
		}
	}
	if q, e := Letters(example(), nil); e != api.OK || len(q) != 0 {
		t.Error(q, e)
	}
}

func TestArgumentsAreKept(t *testing.T) {
	q := []int{0, 0, 0, 0}
	out, _, _ := Run(example(), q, 0)
	out[0] = 9
	Run(example(), q, 4)
	if !slices.Equal(q, []int{0, 0, 0, 0}) {
		t.Error(q)
	}
}
