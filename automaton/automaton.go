// Package automaton says which automata are valid, for the layers that read halves of tapes with them.
package automaton

import "standstill/api"

// Valid reports whether a list of rows is an automaton for a number of symbols.
func Valid(rows [][]int, symbols int) bool {
	if len(rows) < 1 || len(rows) > api.MaxAuto {
		return false
	}
	for _, row := range rows {
		if len(row) != symbols {
			return false
		}
		for _, q := range row {
			if q < 0 || q >= len(rows) {
				return false
			}
		}
	}
	return symbols > 0 && rows[0][0] == 0
}
