// Package reduce is layer 9: it simulates Turing machines with two symbols by register machines and by tag systems.
package reduce

import (
	"math/bits"

	"standstill/api"
	"standstill/tape"
)

const maxQueueNumber = 20000

func checkMachine(m api.Machine) api.Errno {
	if !tape.Valid(m) {
		return api.ErrForm
	}
	if m.Symbols > 2 {
		return api.ErrArg
	}
	return api.OK
}

func checkBoth(m api.Machine, c api.Config) api.Errno {
	if !tape.Fits(m, c) {
		return api.ErrForm
	}
	return checkMachine(m)
}

// Numbers returns the symbol under the head, the left number and the right number.
func Numbers(m api.Machine, c api.Config) (int, int, int, api.Errno) {
	if e := checkBoth(m, c); e != api.OK {
		return 0, 0, 0, e
	}
	left, leftFits := number(c, -1)
	right, rightFits := number(c, 1)
	if !leftFits || !rightFits {
		return 0, 0, 0, api.ErrSize
	}
	return tape.Read(c, c.Pos), left, right, api.OK
}

// number returns the number on one side of the head, and whether it is within the limit.
func number(c api.Config, side int) (int, bool) {
	n := 0
	for i, x := range c.Cells {
		digit := (c.From+i-c.Pos)*side - 1
		if x == 0 || digit < 0 {
			continue
		}
		if digit >= bits.Len(api.MaxTotal) {
			return 0, false
		}
		n |= 1 << digit
	}
	return n, n <= api.MaxTotal
}

// Centred returns the configuration at position 0 with some numbers.
func Centred(m api.Machine, state, x, left, right int) (api.Config, api.Errno) {
	if e := checkMachine(m); e != api.OK {
		return api.Config{}, e
	}
	if state < api.Stop || state >= m.States || x < 0 || x > 1 || !isNumber(left) || !isNumber(right) {
		return api.Config{}, api.ErrArg
	}
	return centred(state, x, left, right), api.OK
}

func isNumber(n int) bool {
	return n >= 0 && n <= api.MaxTotal
}

func centred(state, x, left, right int) api.Config {
	c := api.Config{State: state}
	low, high := -bits.Len(uint(left)), bits.Len(uint(right))
	for p := low; p <= high; p++ {
		switch {
		case p < 0:
			c.Cells = append(c.Cells, left>>(-p-1)&1)
		case p == 0:
			c.Cells = append(c.Cells, x)
		default:
			c.Cells = append(c.Cells, right>>(p-1)&1)
		}
	}
	return trimmed(c, low)
}

// trimmed leaves out the blanks at the ends; they are the cell under the head and those beside it, if the numbers are 0.
func trimmed(c api.Config, from int) api.Config {
	for len(c.Cells) > 0 && c.Cells[0] == 0 {
		c.Cells = c.Cells[1:]
		from++
	}
	for len(c.Cells) > 0 && c.Cells[len(c.Cells)-1] == 0 {
		c.Cells = c.Cells[:len(c.Cells)-1]
	}
	if len(c.Cells) > 0 {
		c.From = from
	}
	return c
}
