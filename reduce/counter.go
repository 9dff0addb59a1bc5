package reduce

import "standstill/api"

// The registers: the left number, the right number, and one that is 0 at each point.
const (
	leftReg = iota
	rightReg
	spareReg
	regs
)

// program writes the instructions of the register machine.
type program struct {
	points []int
	code   []api.Inst
}

func (p *program) inc(reg, next int) {
	p.code = append(p.code, api.Inst{Op: api.Inc, Reg: reg, Next: next})
}

func (p *program) dec(reg, next, zero int) {
	p.code = append(p.code, api.Inst{Op: api.Dec, Reg: reg, Next: next, Zero: zero})
}

// pointOf returns the number of the point of a state, which may be Stop, and a symbol.
func pointOf(m api.Machine, state, x int) int {
	if state == api.Stop {
		state = m.States
	}
	return 2*state + x
}

// ruleLength returns the number of instructions of a rule.
func ruleLength(r api.Rule) int {
	return 13 + r.Write
}

// ToCounter returns a register machine that simulates a machine, and its points.
func ToCounter(m api.Machine) (api.Counter, []int, api.Errno) {
	if e := checkMachine(m); e != api.OK {
		return api.Counter{}, nil, e
	}
	p := &program{}
	size := 0
	for _, row := range m.Rules {
		for _, r := range row {
			p.points = append(p.points, size)
			size += ruleLength(r)
		}
	}
	p.points = append(p.points, size, size+1)
	for _, row := range m.Rules {
		for _, r := range row {
			p.rule(m, r)
		}
	}
	p.code = append(p.code, api.Inst{Op: api.Halt}, api.Inst{Op: api.Halt})
	return api.Counter{Regs: regs, Code: p.code}, p.points, api.OK
}

// rule writes the instructions of a rule: the number behind the head is doubled, with the symbol that is written as its new digit, and the one ahead is halved; its last digit is the new symbol.
func (p *program) rule(m api.Machine, r api.Rule) {
	behind, ahead := leftReg, rightReg
	if r.Move < 0 {
		behind, ahead = rightReg, leftReg
	}
	p.double(behind)
	if r.Write == 1 {
		p.inc(behind, len(p.code)+1)
	}
	even := p.points[pointOf(m, r.Next, 0)]
	odd := p.points[pointOf(m, r.Next, 1)]
	p.halve(ahead, even, odd)
}

// double begins with the point, to which its loop does not return.
func (p *program) double(reg int) {
	inc, dec := p.inc, p.dec
	point := len(p.code)
	loop := point + 3
	back := loop + 1
	dec(reg, point+1, back)
	inc(spareReg, point+2)
	inc(spareReg, loop)
	dec(reg, point+1, back)
	dec(spareReg, back+1, back+2)
	inc(reg, back)
}

// halve leaves the even or the odd end with half of the register.
func (p *program) halve(reg, even, odd int) {
	inc, dec := p.inc, p.dec
	loop := len(p.code)
	evenBack := loop + 3
	oddBack := loop + 5
	dec(reg, loop+1, evenBack)
	dec(reg, loop+2, oddBack)
	inc(spareReg, loop)
	dec(spareReg, evenBack+1, even)
	inc(reg, evenBack)
	dec(spareReg, oddBack+1, odd)
	inc(reg, oddBack)
}
