package strip

import (
	"slices"
	"testing"

	"standstill/api"
	"standstill/tape"
)

func TestAgainstTape(t *testing.T) {
	for _, text := range []string{"1RB1LB_1LA1RZ", "1LB1RB_1RA1LZ", "1RB1RZ_1LB0RC_1LC1LA", "0RA0RA", "0LA0LA", "1RB2LA1RZ_2LA1RB0RA", "1LB1RA_0RA0LB"} {
		m, _ := tape.Parse(text)
		last := -1
		for step, s := range Moments(m, 100) {
			want, done, _ := tape.Run(m, api.Config{}, step)
			got := s.Config()
			if done != step || got.State != want.State || got.Pos != want.Pos || got.From != want.From || !slices.Equal(got.Cells, want.Cells) {
				t.Fatalf("%s after %d steps: %v, want %v", text, step, got, want)
			}
			last = step
		}
		s, done := Run(m, 100)
		if want, _, _ := tape.Run(m, api.Config{}, 100); done != last || s.Pos != want.Pos || s.State != want.State {
			t.Errorf("%s: %d steps, want %d", text, done, last)
		}
	}
}

func TestMomentsEnd(t *testing.T) {
	m, _ := tape.Parse("0RA0RA")
	n := 0
	for step := range Moments(m, 10) {
		if n++; step == 3 {
			break
		}
	}
	if n != 4 {
		t.Error(n)
	}
	for step := range Moments(m, 0) {
		if step > 0 {
			t.Error(step)
		}
	}
}
