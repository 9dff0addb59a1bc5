package reduce

import (
	"standstill/api"
	"standstill/tag"
)

// The kinds of letters. A configuration whose next step doubles the number a, behind the head, and halves the number b, ahead of it, is the queue
//
//	first pad (one pad)^a second pad (two pad)^b
//
// with the letters of its state and symbol. A pass over it doubles a and makes single letters of b, the next one halves those; if one is left over, the third pass reads every other letter than it would otherwise. So it knows the new symbol. If the new configuration has the numbers in the other order, the third pass writes late and later in place of second and two, which are moved to the end by reading them.
const (
	pad = iota
	first
	one
	second
	two
	doubledHead
	doubled
	singleHead
	single
	oddDoubledHead
	oddDoubled
	evenDoubledHead
	evenDoubled
	oddHalvedHead
	oddHalved
	evenHalvedHead
	evenHalved
	late
	later
)

// letter is a kind of letter that belongs to a state (or Stop) and a symbol; only pad belongs to none.
type letter struct {
	kind, state, x int
}

// alphabet numbers letters as they are met, and has a rule for each.
type alphabet struct {
	numbers map[letter]int
	system  api.Tag
}

func (a *alphabet) number(l letter) int {
	n, ok := a.numbers[l]
	if !ok {
		n = len(a.numbers)
		a.numbers[l] = n
		a.system.Rules = append(a.system.Rules, nil)
		a.system.Stops = append(a.system.Stops, false)
	}
	return n
}

// rule sets the rule of a letter.
func (a *alphabet) rule(l letter, word ...letter) {
	list := make([]int, 0, len(word))
	for _, x := range word {
		list = append(list, a.number(x))
	}
	n := a.number(l)
	a.system.Rules[n] = list
}

// moveOf returns the move of a state and symbol; that of Stop only says in which order its numbers are.
func moveOf(m api.Machine, state, x int) int {
	if state == api.Stop {
		return 1
	}
	return m.Rules[state][x].Move
}

func newAlphabet(m api.Machine) *alphabet {
	a := &alphabet{numbers: map[letter]int{}, system: api.Tag{Delete: 2}}
	a.number(letter{kind: pad})
	for state := api.Stop; state < m.States; state++ {
		for x := range 2 {
			for kind := first; kind <= two; kind++ {
				a.number(letter{kind, state, x})
			}
			if state != api.Stop {
				a.step(m, state, x)
				continue
			}
			n := a.number(letter{first, state, x})
			a.system.Stops[n] = true
		}
	}
	return a
}

// step sets the rules that simulate a rule of the machine.
func (a *alphabet) step(m api.Machine, state, x int) {
	r := m.Rules[state][x]
	of := func(kind int) letter { return letter{kind, state, x} }
	blank := letter{kind: pad}
	head := []letter{of(doubledHead), blank}
	if r.Write == 1 {
		head = append(head, of(doubled), blank)
	}
	a.rule(of(first), head...)
	a.rule(of(one), of(doubled), blank, of(doubled), blank)
	a.rule(of(second), of(singleHead))
	a.rule(of(two), of(single))

	a.rule(of(doubledHead), of(oddDoubledHead), of(evenDoubledHead))
	a.rule(of(doubled), of(oddDoubled), of(evenDoubled))
	a.rule(of(singleHead), of(oddHalvedHead), of(evenHalvedHead))
	a.rule(of(single), of(oddHalved), of(evenHalved))

	odd := a.order(m, r, 1)
	a.rule(of(oddDoubledHead), odd[0], blank)
	a.rule(of(oddDoubled), odd[1], blank)
	a.rule(of(oddHalvedHead), odd[2], blank)
	a.rule(of(oddHalved), odd[3], blank)

	// The last letter of this pass has no partner: it takes a further pad with it.
	even := a.order(m, r, 0)
	a.rule(of(evenDoubledHead), blank, even[0], blank)
	a.rule(of(evenDoubled), even[1], blank)
	a.rule(of(evenHalvedHead), even[2], blank)
	a.rule(of(evenHalved), even[3], blank)
}

// order returns the letters of the doubled number and of the halved number when the symbol x comes under the head.
func (a *alphabet) order(m api.Machine, r api.Rule, x int) [4]letter {
	of := func(kind int) letter { return letter{kind, r.Next, x} }
	if r.Move == moveOf(m, r.Next, x) {
		return [4]letter{of(first), of(one), of(second), of(two)}
	}
	a.rule(of(late), of(second), letter{kind: pad})
	a.rule(of(later), of(two), letter{kind: pad})
	return [4]letter{of(late), of(later), of(first), of(one)}
}

// ToTag returns a tag system that simulates a machine.
func ToTag(m api.Machine) (api.Tag, api.Errno) {
	if e := checkMachine(m); e != api.OK {
		return api.Tag{}, e
	}
	return newAlphabet(m).system, api.OK
}

// Queue returns the queue that represents a configuration.
func Queue(m api.Machine, c api.Config) ([]int, api.Errno) {
	x, left, right, e := Numbers(m, c)
	if e != api.OK {
		return nil, e
	}
	if left > maxQueueNumber || right > maxQueueNumber {
		return nil, api.ErrSize
	}
	if moveOf(m, c.State, x) < 0 {
		left, right = right, left
	}
	a := newAlphabet(m)
	var out []int
	add := func(kind, count int) {
		for range count {
			out = append(out, a.number(letter{kind, c.State, x}), a.number(letter{kind: pad}))
		}
	}
	add(first, 1)
	add(one, left)
	add(second, 1)
	add(two, right)
	return out, api.OK
}

// Config returns the configuration that a queue represents.
func Config(m api.Machine, queue []int) (api.Config, bool, api.Errno) {
	if e := checkMachine(m); e != api.OK {
		return api.Config{}, false, e
	}
	a := newAlphabet(m)
	if !tag.Fits(a.system, queue) {
		return api.Config{}, false, api.ErrForm
	}
	for state := api.Stop; state < m.States; state++ {
		for x := range 2 {
			if left, right, ok := a.read(queue, state, x); ok {
				if moveOf(m, state, x) < 0 {
					left, right = right, left
				}
				return centred(state, x, left, right), true, api.OK
			}
		}
	}
	return api.Config{}, false, api.OK
}

// read returns the numbers of a queue if it represents a configuration with a state and a symbol: the one that is to be doubled, and the one that is to be halved.
func (a *alphabet) read(queue []int, state, x int) (int, int, bool) {
	at := 0
	count := func(kind, most int) int {
		n := 0
		for n < most && at+1 < len(queue) && queue[at] == a.number(letter{kind, state, x}) && queue[at+1] == a.number(letter{kind: pad}) {
			n++
			at += 2
		}
		return n
	}
	if count(first, 1) == 0 {
		return 0, 0, false
	}
	behind := count(one, len(queue))
	if count(second, 1) == 0 {
		return 0, 0, false
	}
	ahead := count(two, len(queue))
	return behind, ahead, at == len(queue)
}
