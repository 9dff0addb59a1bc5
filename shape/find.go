package shape

import (
	"slices"

	"standstill/api"
	"standstill/strip"
	"standstill/tape"
)

// The shapes that are sought.
const (
	soughtWord   = 4
	soughtRepeat = 3
	soughtFirst  = 3
	window       = 2*soughtWord + soughtFirst*soughtRepeat
	partOfSteps  = 10
)

// turn is a configuration in which all cells that are not blank are near the head, on one side: the left one, or the right one if it is mirrored. The last cell is the nearest one.
type turn struct {
	mirrored bool
	state    int
	cells    [window]int8
}

// Find returns a shape of a machine, and the number of steps after which it begins.
func Find(m api.Machine, n int) (int, api.Shape, api.Errno) {
	if !tape.Valid(m) {
		return 0, api.Shape{}, api.ErrForm
	}
	if n < 1 || n > api.MaxSteps {
		return 0, api.Shape{}, api.ErrArg
	}
	a, found, e := 0, api.Shape{}, api.ErrNone
	met := map[turn]bool{}
	eachTurn(m, n/partOfSteps, func(step int, t turn) bool {
		if met[t] {
			return true
		}
		met[t] = true
		s, ok := shapeOf(facing(m, t.mirrored), t)
		if ok {
			a, found, e = step, s, api.OK
		}
		return !ok
	})
	return a, found, e
}

// eachTurn hands the turns of a run to a function, until that returns false.
func eachTurn(m api.Machine, n int, take func(step int, t turn) bool) {
	total := 0 // cells that are not blank
	pos, before := 0, 0
	for step, s := range strip.Moments(m, n) {
		if s.State == api.Stop {
			return
		}
		total += min(s.Read(pos), 1) - min(before, 1)
		pos, before = s.Pos, s.Read(s.Pos)
		for _, mirrored := range []bool{false, true} {
			t, ok := turnOf(s, mirrored, total)
			if ok && !take(step, t) {
				return
			}
		}
	}
}

func turnOf(s *strip.Strip, mirrored bool, total int) (turn, bool) {
	t := turn{mirrored: mirrored, state: s.State}
	side := -1
	if mirrored {
		side = 1
	}
	for i := range t.cells {
		x := s.Read(s.Pos + side*(window-i))
		t.cells[i] = int8(x)
		total -= min(x, 1)
	}
	return t, total == 0
}

// shapeOf returns a shape that grows, and has a turn as its first tape.
func shapeOf(m api.Machine, t turn) (api.Shape, bool) {
	cells := make([]int, window)
	for i, x := range t.cells {
		cells[i] = int(x)
	}
	for first := 1; first <= soughtFirst; first++ {
		for repeat := 1; repeat <= soughtRepeat; repeat++ {
			for last := 0; last <= soughtWord; last++ {
				s, ok := cut(cells, first, repeat, last)
				if !ok {
					continue
				}
				s.Mirrored, s.State = t.mirrored, t.state
				if grows(m, s) {
					return s, true
				}
			}
		}
	}
	return api.Shape{}, false
}

// cut cuts cells into a word, some equal words of a length, and a word of a length.
func cut(cells []int, first, repeat, last int) (api.Shape, bool) {
	end := len(cells) - last
	begin := end - first*repeat
	before := withoutBlanks(cells[:begin])
	word := cells[begin : begin+repeat]
	if len(before) > soughtWord || !slices.Equal(cells[begin:end], slices.Repeat(word, first)) {
		return api.Shape{}, false
	}
	words := [][]int{slices.Clone(before), slices.Clone(cells[end:])}
	return api.Shape{Words: words, Repeats: [][]int{slices.Clone(word)}, First: first}, true
}
