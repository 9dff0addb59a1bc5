package tag

import "standstill/api"

// Bits returns encoded letters.
func Bits(t api.Tag, queue []int) ([]int, api.Errno) {
	if !Fits(t, queue) {
		return nil, api.ErrForm
	}
	if len(queue)*len(t.Rules) > maxBits {
		return nil, api.ErrSize
	}
	return encoded(queue, len(t.Rules)), api.OK
}

// encoded returns the letters of a system with r rules, encoded one after the other.
func encoded(word []int, r int) []int {
	out := make([]int, len(word)*r)
	for i, letter := range word {
		out[i*r+letter] = 1
	}
	return out
}

// Letters returns the letters that are encoded.
func Letters(t api.Tag, bits []int) ([]int, api.Errno) {
	if !Valid(t) {
		return nil, api.ErrForm
	}
	r := len(t.Rules)
	if len(bits)%r != 0 {
		return nil, api.ErrArg
	}
	out := make([]int, 0, len(bits)/r)
	for from := 0; from < len(bits); from += r {
		letter, ok := decoded(bits[from : from+r])
		if !ok {
			return nil, api.ErrArg
		}
		out = append(out, letter)
	}
	return out, api.OK
}

func decoded(bits []int) (int, bool) {
	letter, ones := 0, 0
	for i, b := range bits {
		if b < 0 || b > 1 {
			return 0, false
		}
		if b == 1 {
			letter = i
			ones++
		}
	}
	return letter, ones == 1
}

// ToCyclic returns the cyclic tag system that simulates a tag system.
func ToCyclic(t api.Tag) (api.Cyclic, api.Errno) {
	if !Valid(t) {
		return api.Cyclic{}, api.ErrForm
	}
	r := len(t.Rules)
	words := make([][]int, t.Delete*r)
	for letter, word := range t.Rules {
		if !t.Stops[letter] {
			words[letter] = encoded(word, r)
		}
	}
	return api.Cyclic{Words: words}, api.OK
}
