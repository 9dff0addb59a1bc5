// Package strip runs machines from the blank configuration in place and without limits, for the layers that look at each step of a run.
package strip

import (
	"iter"

	"standstill/api"
)

// Strip is a configuration that changes in place. Its zero value is the blank one.
type Strip struct {
	State, Pos  int
	left, right []uint8 // the cells from the position -1 on to the left, and from 0 on to the right
}

// Read returns the symbol at a position.
func (s *Strip) Read(pos int) int {
	cells, i := s.right, pos
	if pos < 0 {
		cells, i = s.left, -1-pos
	}
	if i >= len(cells) {
		return 0
	}
	return int(cells[i])
}

// Step does a step of a valid machine that has not stopped.
func (s *Strip) Step(m api.Machine) {
	r := m.Rules[s.State][s.Read(s.Pos)]
	if s.Pos < 0 {
		s.left = written(s.left, -1-s.Pos, r.Write)
	} else {
		s.right = written(s.right, s.Pos, r.Write)
	}
	s.Pos += r.Move
	s.State = r.Next
}

func written(cells []uint8, i, x int) []uint8 {
	for x != 0 && i >= len(cells) {
		cells = append(cells, 0)
	}
	if i < len(cells) {
		cells[i] = uint8(x)
	}
	return cells
}

// Config returns the configuration.
func (s *Strip) Config() api.Config {
	c := api.Config{State: s.State, Pos: s.Pos}
	low, high := -len(s.left), len(s.right)-1
	for low <= high && s.Read(low) == 0 {
		low++
	}
	for low <= high && s.Read(high) == 0 {
		high--
	}
	if low > high {
		return c
	}
	c.From = low
	c.Cells = make([]int, 0, high-low+1)
	for p := low; p <= high; p++ {
		c.Cells = append(c.Cells, s.Read(p))
	}
	return c
}

// Moments ranges over the run of a valid machine: the configurations after 0, 1, .. steps, up to n steps or until it has stopped. The strip changes from one to the next.
func Moments(m api.Machine, n int) iter.Seq2[int, *Strip] {
	return func(yield func(int, *Strip) bool) {
		s := &Strip{}
		for step := 0; yield(step, s); step++ {
			if step == n || s.State == api.Stop {
				return
			}
			s.Step(m)
		}
	}
}

// Run returns the configuration of a valid machine after n steps, or after it has stopped, and the number of steps.
func Run(m api.Machine, n int) (*Strip, int) {
	s := &Strip{}
	done := 0
	for done < n && s.State != api.Stop {
		s.Step(m)
		done++
	}
	return s, done
}
