package desk

import (
	"strconv"
	"strings"

	"standstill/api"
	"standstill/proof"
	"standstill/tape"
)

const maxNumber = 1000000

// arguments are those of a command, as far as it has them.
type arguments struct {
	text    string // the text of the machine
	machine api.Machine
	cert    api.Cert
	numbers []int
}

// read reads a command and its arguments.
func read(line string) (command, arguments, api.Errno) {
	words := strings.Split(line, " ")
	for _, word := range words {
		if !printable(word) {
			return command{}, arguments{}, api.ErrForm
		}
	}
	c, ok := commands()[words[0]]
	if !ok {
		return command{}, arguments{}, api.ErrForm
	}
	fields, ok := divided(words[1:], c.args)
	if !ok {
		return command{}, arguments{}, api.ErrForm
	}
	a, e := understood(fields, c.args)
	return c, a, e
}

func printable(word string) bool {
	for i := range len(word) {
		if word[i] < 33 || word[i] > 126 {
			return false
		}
	}
	return len(word) > 0
}

// divided gives each argument its word; the last one has all the rest, if it is a certificate.
func divided(words []string, args string) ([]string, bool) {
	if strings.HasSuffix(args, string(certArg)) && len(words) > len(args) {
		last := len(args) - 1
		words = append(words[:last:last], strings.Join(words[last:], " "))
	}
	return words, len(words) == len(args)
}

// understood reads the arguments: first the numbers, whose errors come first.
func understood(fields []string, args string) (arguments, api.Errno) {
	var a arguments
	for i, field := range fields {
		if args[i] != numberArg {
			continue
		}
		n, ok := number(field)
		if !ok {
			return arguments{}, api.ErrForm
		}
		a.numbers = append(a.numbers, n)
	}
	for i, field := range fields {
		e := api.OK
		switch args[i] {
		case machineArg:
			a.text = field
			a.machine, e = tape.Parse(field)
		case certArg:
			a.cert, e = proof.Parse(field)
		}
		if e != api.OK {
			return arguments{}, e
		}
	}
	return a, api.OK
}

func number(word string) (int, bool) {
	n, err := strconv.Atoi(word)
	return n, err == nil && n >= 0 && n <= maxNumber && strconv.Itoa(n) == word
}
