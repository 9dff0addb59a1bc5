package proof

import (
	"math"
	"math/rand"
	"reflect"
	"slices"
	"strings"
	"testing"

	"standstill/api"
	"standstill/back"
	"standstill/closed"
	"standstill/loop"
	"standstill/shape"
	"standstill/tape"
)

func machine(t *testing.T, s string) api.Machine {
	t.Helper()
	m, e := tape.Parse(s)
	if e != api.OK {
		t.Fatalf("%q: %d", s, e)
	}
	return m
}

func anyMachine(r *rand.Rand) api.Machine {
	m := api.Machine{States: 1 + r.Intn(3), Symbols: 2 + r.Intn(2)}
	for s := 0; s < m.States; s++ {
		var row []api.Rule
		for x := 0; x < m.Symbols; x++ {
			rule := api.Rule{Write: r.Intn(m.Symbols), Move: 2*r.Intn(2) - 1, Next: r.Intn(m.States)}
			if r.Intn(6) == 0 {
				rule.Next = api.Stop
			}
			row = append(row, rule)
		}
		m.Rules = append(m.Rules, row)
	}
	return m
}

// certs returns certificates for a machine, of all kinds for which there is one.
func certs(m api.Machine) []api.Cert {
	var out []api.Cert
	if c, n, _ := tape.Run(m, api.Config{}, 500); c.State == api.Stop {
		out = append(out, api.Cert{Kind: api.CertStop, A: n})
	}
	if a, b, right, e := loop.Find(m, 60); e == api.OK {
		out = append(out, api.Cert{Kind: api.CertLoop, A: a, B: b, Right: right})
	}
	if k, e := back.Find(m, 6); e == api.OK {
		out = append(out, api.Cert{Kind: api.CertBack, A: k})
	}
	one := [][]int{make([]int, m.Symbols)}
	two := [][]int{make([]int, m.Symbols), make([]int, m.Symbols)}
	two[0][1], two[1][1] = 1, 1
	if c, e := closed.Close(m, two, one, 100); e == api.OK {
		out = append(out, api.Cert{Kind: api.CertClosed, Closed: c})
	}
	if a, s, e := shape.Find(m, 30); e == api.OK {
		out = append(out, api.Cert{Kind: api.CertShape, A: a, Shape: s})
	}
	return out
}

func mustCheck(t *testing.T, m api.Machine, c api.Cert) bool {
	t.Helper()
	ok, e := Check(m, c)
	if e != api.OK {
		t.Fatalf("%v: %d", c, e)
	}
	return ok
}

func TestExamples(t *testing.T) {
	c, e := Parse("0 6")
	if e != api.OK || !mustCheck(t, machine(t, "1RB1LB_1LA1RZ"), c) || mustCheck(t, machine(t, "1RA1RZ"), c) {
		t.Error(c, e)
	}
	c, e = Parse("1 0 1 1")
	if e != api.OK || !mustCheck(t, machine(t, "1RA1RZ"), c) || mustCheck(t, machine(t, "1LA1RZ"), c) {
		t.Error(c, e)
	}
}

func TestAllKinds(t *testing.T) {
	r := rand.New(rand.NewSource(1))
	kinds := map[int]int{}
	for i := 0; i < 400; i++ {
		m := anyMachine(r)
		other, _ := tape.Mirror(m)
		end, steps, _ := tape.Run(m, api.Config{}, 3000)
		for _, c := range certs(m) {
			kinds[c.Kind]++
			if !mustCheck(t, m, c) {
				t.Fatalf("%v: %v is not accepted", m, c)
			}
			n, stops := Stops(c)
			if stops != (end.State == api.Stop) || stops && n != steps || !stops && n != 0 {
				t.Fatalf("%v: %v, but %d steps", m, c, steps)
			}
			text, e := Text(c)
			back, f := Parse(text)
			if again, _ := Text(back); e != api.OK || f != api.OK || again != text || !mustCheck(t, m, back) {
				t.Fatalf("%v: %q, %v", c, text, back)
			}
			d, e := Mirror(m, c)
			if e != api.OK || d.Kind != c.Kind || !mustCheck(t, other, d) {
				t.Fatalf("%v: %v, mirrored %v", m, c, d)
			}
			if n, stops := Stops(d); stops != (c.Kind == api.CertStop) || n != steps && stops {
				t.Fatal(d)
			}
		}
	}
	for kind := range api.CertKinds {
		if kinds[kind] < 10 {
			t.Errorf("kind %d: %d", kind, kinds[kind])
		}
	}
}

func TestStops(t *testing.T) {
	m := machine(t, "1RB1LB_1LA1RZ")
	for _, a := range []int{-1, 0, 1, 5, 7, 100, api.MaxSteps, api.MaxSteps + 1, math.MaxInt, math.MinInt} {
		if mustCheck(t, m, api.Cert{A: a}) {
			t.Errorf("%d steps are accepted", a)
		}
		if n, ok := Stops(api.Cert{A: a}); n != a || !ok {
			t.Error(n, ok)
		}
	}
	if n, ok := Stops(api.Cert{A: 6, B: 1}); ok || n != 0 {
		t.Error("not plain")
	}
	if n, ok := Stops(api.Cert{Kind: api.CertBack, A: 6}); ok || n != 0 {
		t.Error("another kind")
	}
	// It stops after more cells than a configuration may have.
	long := api.Machine{States: 2, Symbols: 2, Rules: [][]api.Rule{{{Write: 1, Move: 1}, {Write: 1, Move: 1}}, {{Write: 1, Move: 1}, {Write: 1, Move: 1}}}}
	if mustCheck(t, long, api.Cert{A: api.MaxSteps}) {
		t.Error("it does not stop")
	}
}

func full() api.Cert {
	return api.Cert{A: 1, B: 2, Right: true, Closed: api.Closed{Left: [][]int{{0, 0}}}, Shape: api.Shape{First: 1}}
}

func TestPlain(t *testing.T) {
	m := machine(t, "1RA1RZ")
	all := full()
	for kind := -1; kind <= api.CertKinds; kind++ {
		loops, closed, shapes := kind == api.CertLoop, kind == api.CertClosed, kind == api.CertShape
		extra := []api.Cert{
			{Kind: kind, A: 1}, {Kind: kind, B: 1}, {Kind: kind, Right: true},
			{Kind: kind, Closed: all.Closed}, {Kind: kind, Closed: api.Closed{Right: [][]int{{}}}}, {Kind: kind, Closed: api.Closed{Set: make([][4]int, 1)}},
			{Kind: kind, Closed: api.Closed{LeftEdges: make([][2]int, 1)}}, {Kind: kind, Closed: api.Closed{RightEdges: make([][2]int, 1)}},
			{Kind: kind, Shape: all.Shape}, {Kind: kind, Shape: api.Shape{State: 1}}, {Kind: kind, Shape: api.Shape{Mirrored: true}},
			{Kind: kind, Shape: api.Shape{Words: [][]int{{}}}}, {Kind: kind, Shape: api.Shape{Repeats: [][]int{{}}}},
		}
		known := kind >= 0 && kind < api.CertKinds
		want := []bool{known && !closed, loops, loops, closed, closed, closed, closed, closed, shapes, shapes, shapes, shapes, shapes}
		for i, c := range extra {
			_, e1 := Check(m, c)
			text, e2 := Text(c)
			if (e1 == api.OK) != want[i] || (e2 == api.OK) != want[i] || !want[i] && (e1 != api.ErrArg || e2 != api.ErrForm || text != "") {
				t.Errorf("%v: %d %d", c, e1, e2)
			}
			if _, e := Mirror(m, c); !want[i] && e != api.ErrArg {
				t.Errorf("%v: %d", c, e)
			}
		}
	}
	// Empty lists are as good as none.
	if _, e := Check(m, api.Cert{Closed: api.Closed{Left: [][]int{}}, Shape: api.Shape{Words: [][]int{}}}); e != api.OK {
		t.Error(e)
	}
}

func TestTextOfAllFields(t *testing.T) {
	c := api.Cert{Kind: api.CertClosed, Closed: api.Closed{
		Left: [][]int{{0, 1}, {1, 0}}, Right: [][]int{{0, 0}}, LeftEdges: [][2]int{{0, 0}, {1, 1}}, RightEdges: [][2]int{{0, 1}},
		Set: [][4]int{{0, 0, 0, 0}, {1, 2, 3, -4}},
	}}
	if s, e := Text(c); e != api.OK || s != "3 2 2 0 1 2 1 0 1 2 0 0 2 0 0 1 1 1 0 1 2 0 0 0 0 1 2 3 -4" {
		t.Error(s, e)
	}
	c = api.Cert{Kind: api.CertShape, A: 7, Shape: api.Shape{Mirrored: true, State: 2, Words: [][]int{{1, 2}, nil}, Repeats: [][]int{{3}}, First: 5}}
	if s, e := Text(c); e != api.OK || s != "4 7 1 2 2 2 1 2 0 1 1 3 5" {
		t.Error(s, e)
	}
	back, e := Parse("4 7 1 2 2 2 1 2 0 1 1 3 5")
	if e != api.OK || len(back.Shape.Words[1]) != 0 {
		t.Error(back, e)
	}
	back.Shape.Words[1] = nil
	if !reflect.DeepEqual(back, c) {
		t.Error(back)
	}
	if s, e := Text(api.Cert{Kind: api.CertLoop, A: math.MinInt, B: math.MaxInt}); e != api.OK || s != "1 -9223372036854775808 9223372036854775807 0" {
		t.Error(s, e)
	}
	if s, e := Text(api.Cert{Kind: api.CertClosed}); e != api.OK || s != "3 0 0 0 0 0" {
		t.Error(s, e)
	}
}

func TestParseRefuses(t *testing.T) {
	bad := []string{"", " ", "0", "0 ", " 0 6", "0 6 ", "0  6", "0 06", "0 +6", "0 -0", "0 6 0", "00 6", "5 1", "-1 1", "0 x", "0 6\n", "0 0x6", "0 9223372036854775808",
		"1 0 1", "1 0 1 2", "1 0 1 -1", "1 0 1 1 0", "2", "3", "3 0 0 0 0", "3 0 0 0 0 1", "3 0 0 0 0 1 0 0 0", "3 1 0 0 0 0", "3 -1 0 0 0 0", "3 9223372036854775807",
		"3 0 0 0 0 9000000000000000000 1", "4 1 0 0 0 0", "4 1 2 0 0 0 1", "4 1 0 0 0 0 1 1", "0\t6", "０ ６"}
	for _, s := range bad {
		if c, e := Parse(s); e != api.ErrParse || !reflect.DeepEqual(c, api.Cert{}) {
			t.Errorf("%q: %v, %d", s, c, e)
		}
	}
	r := rand.New(rand.NewSource(2))
	good := []string{"0 6", "1 0 1 1", "3 1 2 0 0 1 2 0 0 1 0 0 1 0 0 1 0 0 0 0", "4 7 1 2 2 2 1 2 0 1 1 3 5"}
	for i := 0; i < 20000; i++ {
		b := []byte(good[i%len(good)])
		for range 1 + r.Intn(2) {
			b[r.Intn(len(b))] = " 0123456789-+x"[r.Intn(14)]
		}
		c, e := Parse(string(b))
		if text, _ := Text(c); e == api.OK && text != string(b) {
			t.Fatalf("%q is read as %q", b, text)
		}
	}
}

func TestLongTexts(t *testing.T) {
	// One list with as many words as fit: "3 1 n 0 0 .. 0 0 0 0 0".
	cert := func(n int) api.Cert {
		return api.Cert{Kind: api.CertClosed, Closed: api.Closed{Left: [][]int{make([]int, n)}}}
	}
	n := (api.MaxText - len("3 1 29990 0 0 0 0")) / 2
	s, e := Text(cert(n))
	if e != api.OK || len(s) > api.MaxText || len(s) < api.MaxText-1 {
		t.Fatal(len(s), e)
	}
	if c, e := Parse(s); e != api.OK || len(c.Closed.Left[0]) != n {
		t.Error(e)
	}
	if s, e := Text(cert(n + 1)); e != api.ErrSize || s != "" {
		t.Error(len(s), e)
	}
	if _, e := Parse(strings.Replace(s, " 0", " 00", 1)); e != api.ErrParse {
		t.Error(e)
	}
	if _, e := Parse("3 1 29992" + strings.Repeat(" 0", 29992) + " 0 0 0 0"); e != api.ErrParse {
		t.Error(e)
	}
}

func TestInvalid(t *testing.T) {
	if ok, e := Check(api.Machine{}, full()); ok || e != api.ErrForm {
		t.Error(e)
	}
	if _, e := Mirror(api.Machine{}, full()); e != api.ErrForm {
		t.Error(e)
	}
	m := machine(t, "1RB1LB_1LA1RZ")
	// They are plain, but prove nothing: their checks return errors.
	for _, c := range []api.Cert{{A: 5}, {Kind: api.CertLoop, A: -1, B: 3}, {Kind: api.CertLoop}, {Kind: api.CertBack, A: -1}, {Kind: api.CertBack, A: 1000}, {Kind: api.CertClosed}, {Kind: api.CertShape, A: 1}, {Kind: api.CertShape, A: -1}} {
		if mustCheck(t, m, c) {
			t.Errorf("%v is accepted", c)
		}
		if d, e := Mirror(m, c); e != api.ErrArg || !reflect.DeepEqual(d, api.Cert{}) {
			t.Errorf("%v: %d", c, e)
		}
	}
}

func TestMirrorSharesNothing(t *testing.T) {
	m := machine(t, "1RA1RZ")
	c := api.Cert{Kind: api.CertShape, A: 1, Shape: api.Shape{Words: [][]int{{}, {}}, Repeats: [][]int{{1}}, First: 1}}
	d, e := Mirror(m, c)
	if e != api.OK || !d.Shape.Mirrored {
		t.Fatal(d, e)
	}
	d.Shape.Repeats[0][0] = 7
	if c.Shape.Repeats[0][0] != 1 {
		t.Error("shared")
	}
	rows := [][]int{{0, 0}}
	set, _ := closed.Close(m, rows, rows, 9)
	before := slices.Clone(set.Set)
	c = api.Cert{Kind: api.CertClosed, Closed: set}
	d, _ = Mirror(m, c)
	d.Closed.Set[0][0], d.Closed.Left[0][0], d.Closed.LeftEdges[0][0] = 7, 7, 7
	if !slices.Equal(set.Set, before) || set.Right[0][0] != 0 || set.RightEdges[0][0] != 0 {
		t.Error("shared")
	}
}
