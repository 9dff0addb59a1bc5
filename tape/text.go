package tape

import (
	"strings"

	"standstill/api"
)

// Text returns the text of a machine.
func Text(m api.Machine) (string, api.Errno) {
	if !Valid(m) {
		return "", api.ErrForm
	}
	var s strings.Builder
	for i, row := range m.Rules {
		if i > 0 {
			s.WriteByte('_')
		}
		for _, r := range row {
			s.WriteByte(byte('0' + r.Write))
			s.WriteByte(moveLetter(r.Move))
			s.WriteByte(stateLetter(r.Next))
		}
	}
	return s.String(), api.OK
}

func moveLetter(move int) byte {
	if move == toLeft {
		return 'L'
	}
	return 'R'
}

func stateLetter(state int) byte {
	if state == api.Stop {
		return 'Z'
	}
	return byte('A' + state)
}

// Parse returns the machine of a text.
func Parse(s string) (api.Machine, api.Errno) {
	var m api.Machine
	if len(s) > api.MaxStates*(3*api.MaxSymbols+1) {
		return m, api.ErrParse
	}
	for _, part := range strings.Split(s, "_") {
		if len(part)%3 != 0 {
			return api.Machine{}, api.ErrParse
		}
		row := make([]api.Rule, 0, len(part)/3)
		for i := 0; i < len(part); i += 3 {
			row = append(row, parseRule(part[i:i+3]))
		}
		m.Rules = append(m.Rules, row)
	}
	m.States, m.Symbols = len(m.Rules), len(m.Rules[0])
	if !Valid(m) {
		return api.Machine{}, api.ErrParse
	}
	return m, api.OK
}

// parseRule returns the rule of three characters; those that mean nothing yield a rule that is not valid.
func parseRule(s string) api.Rule {
	r := api.Rule{Write: int(s[0]) - '0', Next: int(s[2]) - 'A'}
	switch s[1] {
	case 'L':
		r.Move = toLeft
	case 'R':
		r.Move = toRight
	}
	if s[2] == 'Z' {
		r.Next = api.Stop
	} else if r.Next < 0 {
		r.Next = api.MaxStates
	}
	return r
}
