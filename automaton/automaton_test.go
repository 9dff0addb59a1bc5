package automaton

import (
	"testing"

	"standstill/api"
)

func TestValid(t *testing.T) {
	good := [][][]int{{{0, 0}}, {{0, 1}, {1, 0}}, {{0, 0}, {1, 1}}, make([][]int, api.MaxAuto)}
	for i := range good[3] {
		good[3][i] = []int{0, i}
	}
	for _, a := range good {
		if !Valid(a, 2) || Valid(a, 3) || Valid(a, 1) {
			t.Error(a)
		}
	}
	bad := [][][]int{nil, {}, {nil}, {{1, 0}, {0, 0}}, {{0, 2}, {0, 0}}, {{0, -1}}, {{0, 0}, {0}}, {{0, 0}, nil}, append(good[3], []int{0, 0})}
	for _, a := range bad {
		if Valid(a, 2) || Valid(a, 0) {
			t.Error(a)
		}
	}
}
