package desk

import (
	"strconv"

	"standstill/api"
	"standstill/census"
	"standstill/decide"
	"standstill/loop"
	"standstill/normal"
	"standstill/proof"
	"standstill/search"
	"standstill/tape"
)

// command is what a line may ask for: its arguments, one letter for each, and what does it.
type command struct {
	args string
	do   func(d *Desk, a arguments) ([]string, api.Errno)
}

// The letters of arguments. The words of a certificate are the last argument.
const (
	machineArg = 'm'
	numberArg  = 'n'
	certArg    = 'c'
)

func commands() map[string]command {
	return map[string]command{
		"run":    {"mn", (*Desk).run},
		"normal": {"mn", (*Desk).normal},
		"decide": {"m", (*Desk).decide},
		"check":  {"mc", (*Desk).check},
		"loop":   {"mn", (*Desk).loop},
		"grams":  {"mn", (*Desk).grams},
		"census": {"nnnn", (*Desk).census},
		"best":   {"", (*Desk).longest},
	}
}

func (d *Desk) run(a arguments) ([]string, api.Errno) {
	c, steps, e := tape.Run(a.machine, api.Config{}, a.numbers[0])
	if e != api.OK {
		return nil, e
	}
	state := string(rune('A' + c.State))
	if c.State == api.Stop {
		state = "Z"
		d.stopped(a.text, steps)
	}
	return append([]string{state}, texts(c.Pos, steps, tape.Ones(c))...), api.OK
}

func (d *Desk) normal(a arguments) ([]string, api.Errno) {
	form, e := normal.Normal(a.machine, a.numbers[0])
	if e != api.OK {
		return nil, e
	}
	text, e := tape.Text(form)
	return []string{text}, e
}

func (d *Desk) decide(a arguments) ([]string, api.Errno) {
	c, e := decide.Decide(a.machine)
	if e != api.OK {
		return nil, e
	}
	text, e := proof.Text(c)
	if e != api.OK {
		return nil, e
	}
	if steps, stops := proof.Stops(c); stops {
		d.stopped(a.text, steps)
	}
	return []string{text}, api.OK
}

func (d *Desk) check(a arguments) ([]string, api.Errno) {
	ok, e := proof.Check(a.machine, a.cert)
	if e != api.OK {
		return nil, e
	}
	if !ok {
		return []string{"no"}, api.OK
	}
	steps, stops := proof.Stops(a.cert)
	if !stops {
		return []string{"ever"}, api.OK
	}
	d.stopped(a.text, steps)
	return append([]string{"stops"}, texts(steps)...), api.OK
}

func (d *Desk) loop(a arguments) ([]string, api.Errno) {
	from, to, right, e := loop.Find(a.machine, a.numbers[0])
	if e != api.OK {
		return nil, e
	}
	side := "left"
	if right {
		side = "right"
	}
	return append(texts(from, to), side), api.OK
}

func (d *Desk) grams(a arguments) ([]string, api.Errno) {
	set, cells, e := search.Grams(a.machine, a.numbers[0])
	if e != api.OK {
		return nil, e
	}
	return texts(cells, len(set.Set)), api.OK
}

func (d *Desk) census(a arguments) ([]string, api.Errno) {
	c, e := census.Tree(a.numbers[0], a.numbers[1], a.numbers[2], a.numbers[3])
	if e != api.OK {
		return nil, e
	}
	return texts(c.Machines, c.Stop, c.Ever, c.Open, c.Steps, c.Ones), api.OK
}

func (d *Desk) longest(arguments) ([]string, api.Errno) {
	if d.best == "" {
		return nil, api.ErrNone
	}
	return append([]string{d.best}, texts(d.steps)...), api.OK
}

func texts(numbers ...int) []string {
	var out []string
	for _, n := range numbers {
		out = append(out, strconv.Itoa(n))
	}
	return out
}
