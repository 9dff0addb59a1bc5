package desk

import (
	"fmt"
	"math/rand"
	"slices"
	"strings"
	"testing"

	"standstill/api"
	"standstill/census"
	"standstill/decide"
	"standstill/loop"
	"standstill/normal"
	"standstill/proof"
	"standstill/search"
	"standstill/tape"
)

const six = "1RB1LB_1LA1RZ"

func expect(t *testing.T, d *Desk, line, want string) {
	t.Helper()
	if got := d.Do(line); got != want {
		t.Errorf("%.80q: %.80q, want %.80q", line, got, want)
	}
}

func TestExamples(t *testing.T) {
	d := New()
	expect(t, d, "best", "error 6")
	expect(t, d, "run "+six+" 100", "ok Z 0 6 4")
	expect(t, d, "best", "ok "+six+" 6")
	expect(t, d, "check 1RA1RZ 1 0 1 1", "ok ever")
	if s, n := d.Best(); s != six || n != 6 {
		t.Error(s, n)
	}
}

func TestCommands(t *testing.T) {
	cases := [][2]string{
		{"run " + six + " 0", "ok A 0 0 0"},
		{"run " + six + " 1", "ok B 1 1 1"},
		{"run " + six + " 3", "ok B -1 3 2"},
		{"run 1RA1RZ 1000000", "error 4"},
		{"run 1RA1RZ 100000", "ok A 100000 100000 100000"},
		{"run 1RA1RZ 1000001", "error 1"},
		{"normal 1LB1RB_1RA1LZ 100", "ok " + six},
		{"normal 1LB1RB_1RA1LZ 0", "ok 1RZ1RZ_1RZ1RZ"},
		{"decide " + six, "ok 0 6"},
		{"decide 1RB1RZ_1LB0RC_1LC1LA", "ok 0 21"},
		{"decide 1RA1RZ", "ok 1 0 1 1"},
		{"decide 1RB2LA1RB_1LA1RZ1RA", "error 6"},
		{"check " + six + " 0 6", "ok stops 6"},
		{"check " + six + " 0 5", "ok no"},
		{"check " + six + " 0 0", "ok no"},
		{"check " + six + " 1 -1 3 0", "ok no"},
		{"check 1RA1RZ 4 1 0 0 2 0 0 1 1 1 1", "ok ever"},
		{"loop 1RA1RZ 5", "ok 0 1 right"},
		{"loop 1LA1RZ 5", "ok 0 1 left"},
		{"loop 1RA1RZ 0", "error 2"},
		{"loop 1RA1RZ 2001", "error 2"},
		{"loop " + six + " 2000", "error 6"},
		{"grams 1RA1RZ 3", "ok 0 1"},
		{"grams 1RA1RZ 7", "error 2"},
		{"grams " + six + " 6", "error 6"},
		{"census 1 2 100 20000", "ok 3 1 2 0 1 1"},
		{"census 2 2 100 20000", "ok 61 19 42 0 6 4"},
		{"census 2 2 100 5", "error 4"},
		{"census 0 2 100 5", "error 2"},
		{"census 2 2 10001 5", "error 2"},
	}
	for _, c := range cases {
		expect(t, New(), c[0], c[1])
	}
}

func TestErrors(t *testing.T) {
	form := []string{
		"", " ", "run", "Run " + six + " 1", "best 1", " best", "best ", "run " + six, "run  " + six + " 1", "run " + six + " 1 1", "run " + six + " 01", "run " + six + " +1", "run " + six + " -1",
		"run " + six + " x", "run x x", "decide", "decide " + six + " 1", "check", "check " + six, "census 1 2 3", "census 1 2 3 4 5", "census 1 2 3 x", "census 1 2 3 9999999999999999999999",
		"run\t" + six + " 1", "check " + six + " 0\t6", "check " + six + " 0 6\n", "decide é", "decide \x7f", "unknown", "loop x", "grams x 1 2",
	}
	for _, line := range form {
		expect(t, New(), line, "error 1")
	}
	parse := []string{"run x 1", "decide x", "decide 1RB", "check x 0 6", "check " + six + " x", "check " + six + " 0", "check " + six + " 0 6 1", "check " + six + " 0 06", "loop x 0", "grams x 9", "normal x 5"}
	for _, line := range parse {
		expect(t, New(), line, "error 3")
	}
	long := "decide " + strings.Repeat("x", api.MaxText)
	expect(t, New(), long[:api.MaxText], "error 3")
	expect(t, New(), long[:api.MaxText+1], "error 4")
	var none *Desk
	zero := &Desk{}
	for _, d := range []*Desk{none, zero} {
		expect(t, d, "best", "error 5")
		expect(t, d, long, "error 5")
		expect(t, d, "", "error 5")
		if s, n := d.Best(); s != "" || n != 0 || d.Clone() != nil {
			t.Error(s, n)
		}
	}
	if *zero != (Desk{}) {
		t.Error("changed")
	}
}

func TestBest(t *testing.T) {
	d := New()
	expect(t, d, "run "+six+" 5", "ok B -1 5 4")
	expect(t, d, "best", "error 6")
	expect(t, d, "check "+six+" 0 5", "ok no")
	expect(t, d, "best", "error 6")
	expect(t, d, "decide 0RZ1RZ", "ok 0 1")
	expect(t, d, "run 1RZ1RZ 1", "ok Z 1 1 1")
	expect(t, d, "best", "ok 0RZ1RZ 1")
	expect(t, d, "check "+six+" 0 6", "ok stops 6")
	expect(t, d, "best", "ok "+six+" 6")
	expect(t, d, "decide 1RB1RZ_1LB0RC_1LC1LA", "ok 0 21")
	expect(t, d, "run "+six+" 6", "ok Z 0 6 4")
	expect(t, d, "best", "ok 1RB1RZ_1LB0RC_1LC1LA 21")
	copied := d.Clone()
	expect(t, copied, "best", "ok 1RB1RZ_1LB0RC_1LC1LA 21")
	expect(t, copied, "run 1RB1LB_1LA0LC_1RZ1LD_1RD0RA 200", "ok Z -9 107 13")
	if s, n := d.Best(); s != "1RB1RZ_1LB0RC_1LC1LA" || n != 21 {
		t.Error(s, n)
	}
	if _, n := copied.Best(); n != 107 {
		t.Error(n)
	}
}

func TestPlay(t *testing.T) {
	lines := []string{"best", "run " + six + " 100", "best", "x"}
	got, e := Play(lines)
	if e != api.OK || !slices.Equal(got, []string{"error 6", "ok Z 0 6 4", "ok " + six + " 6", "error 1"}) {
		t.Error(got, e)
	}
	if got, e := Play(nil); e != api.OK || len(got) != 0 {
		t.Error(got, e)
	}
	if got, e := Play(make([]string, api.MaxLines)); e != api.OK || len(got) != api.MaxLines {
		t.Error(got, e)
	}
	if got, e := Play(make([]string, api.MaxLines+1)); e != api.ErrSize || got != nil {
		t.Error(got, e)
	}
}

func anyMachine(r *rand.Rand) string {
	m := api.Machine{States: 1 + r.Intn(3), Symbols: 2 + r.Intn(2)}
	for range m.States {
		var row []api.Rule
		for range m.Symbols {
			row = append(row, api.Rule{Write: r.Intn(m.Symbols), Move: 2*r.Intn(2) - 1, Next: r.Intn(m.States+1) - 1})
		}
		m.Rules = append(m.Rules, row)
	}
	s, _ := tape.Text(m)
	return s
}

func TestWhole(t *testing.T) {
	r := rand.New(rand.NewSource(1))
	d := New()
	longest := 0
	for range 500 {
		m := anyMachine(r)
		reply := d.Do("decide " + m)
		words, ok := strings.CutPrefix(reply, "ok ")
		if !ok {
			if reply != "error 6" && reply != "error 4" {
				t.Fatal(m, reply)
			}
			continue
		}
		says := d.Do("check " + m + " " + words)
		var steps int
		if n, _ := fmt.Sscanf(says, "ok stops %d", &steps); n == 1 {
			longest = max(longest, steps)
			run := d.Do(fmt.Sprintf("run %s %d", m, steps))
			var pos, done, ones int
			if n, _ := fmt.Sscanf(run, "ok Z %d %d %d", &pos, &done, &ones); n != 3 || done != steps || "0 "+fmt.Sprint(steps) != words {
				t.Fatal(m, words, says, run)
			}
		} else if says != "ok ever" || strings.HasPrefix(d.Do("run "+m+" 3000"), "ok Z") {
			t.Fatal(m, words, says)
		}
		if _, n := d.Best(); n != longest {
			t.Fatal(n, longest)
		}
		// A new desk replies the same.
		expect(t, New(), "decide "+m, reply)
		expect(t, New(), "check "+m+" "+words, says)
		checkOthers(t, d, m, r.Intn(50))
	}
}

// checkOthers compares replies with the functions.
func checkOthers(t *testing.T, d *Desk, text string, n int) {
	t.Helper()
	m, _ := tape.Parse(text)
	form, _ := normal.Normal(m, n)
	s, _ := tape.Text(form)
	expect(t, d, fmt.Sprintf("normal %s %d", text, n), "ok "+s)
	a, b, right, e := loop.Find(m, n)
	want := fmt.Sprintf("error %d", e)
	if e == api.OK {
		want = fmt.Sprintf("ok %d %d %s", a, b, map[bool]string{true: "right", false: "left"}[right])
	}
	expect(t, d, fmt.Sprintf("loop %s %d", text, n), want)
	set, i, e := search.Grams(m, n%8)
	want = fmt.Sprintf("error %d", e)
	if e == api.OK {
		want = fmt.Sprintf("ok %d %d", i, len(set.Set))
	}
	expect(t, d, fmt.Sprintf("grams %s %d", text, n%8), want)
	c, e := decide.Decide(m)
	if e == api.OK {
		words, f := proof.Text(c)
		if want = "ok " + words; f != api.OK {
			want = "error 4"
		}
		expect(t, d, "decide "+text, want)
	}
}

func TestCensusOfFew(t *testing.T) {
	for _, list := range [][4]int{{1, 2, 10, 10}, {2, 2, 3, 100}, {1, 3, 10, 1000}, {6, 4, 1, 100}} {
		c, e := census.Tree(list[0], list[1], list[2], list[3])
		want := fmt.Sprintf("error %d", e)
		if e == api.OK {
			want = fmt.Sprintf("ok %d %d %d %d %d %d", c.Machines, c.Stop, c.Ever, c.Open, c.Steps, c.Ones)
		}
		expect(t, New(), fmt.Sprintf("census %d %d %d %d", list[0], list[1], list[2], list[3]), want)
	}
}
