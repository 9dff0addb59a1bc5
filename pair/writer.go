package pair

import "standstill/api"

// The registers of the new machine: the number, and a second one that is 0 at each point.
const (
	number = iota
	other
)

// writer writes the new machine. Each part begins with its point and does not return to it, so that no point is executed in between.
type writer struct {
	points []int
	code   []api.Inst
}

func (w *writer) emit(list ...api.Inst) {
	w.code = append(w.code, list...)
}

func (w *writer) write(i api.Inst) {
	switch i.Op {
	case api.Inc:
		w.multiply(prime(i.Reg), w.points[i.Next])
	case api.Dec:
		w.divide(prime(i.Reg), w.points[i.Next], w.points[i.Zero])
	default:
		w.emit(api.Inst{Op: api.Halt})
	}
}

// add adds q to a register, one by one, and continues with an instruction.
func (w *writer) add(reg, q, next int) {
	for k := q; k > 0; k-- {
		to := len(w.code) + 1
		if k == 1 {
			to = next
		}
		w.emit(api.Inst{Op: api.Inc, Reg: reg, Next: to})
	}
}

// moveBack adds q times the other register to the number.
func (w *writer) moveBack(q, next int) {
	loop := len(w.code)
	w.emit(api.Inst{Op: api.Dec, Reg: other, Next: loop + 1, Zero: next})
	w.add(number, q, loop)
}

// multiply multiplies the number by q. It is at least 1 at the point.
func (w *writer) multiply(q, next int) {
	sum := len(w.code) + 1
	loop := sum + q
	w.emit(api.Inst{Op: api.Dec, Reg: number, Next: sum, Zero: sum})
	w.add(other, q, loop)
	w.emit(api.Inst{Op: api.Dec, Reg: number, Next: sum, Zero: loop + 1})
	w.moveBack(1, next)
}

// divide divides the number by q and continues with next, or leaves it as it is and continues with zero if q does not divide it.
func (w *writer) divide(q, next, zero int) {
	point := len(w.code)
	loop := point + 1
	count := loop + q
	whole := count + 1
	rest := whole + 2
	w.emit(api.Inst{Op: api.Dec, Reg: number, Next: loop + 1, Zero: loop + 1})
	w.emit(api.Inst{Op: api.Dec, Reg: number, Next: loop + 1, Zero: whole})
	// When the number is 0 here, a rest of k is to be added again: by the last k of the instructions at rest.
	for k := 1; k < q; k++ {
		w.emit(api.Inst{Op: api.Dec, Reg: number, Next: loop + k + 1, Zero: rest + q - 1 - k})
	}
	w.add(other, 1, loop)
	w.moveBack(1, next)
	w.add(number, q-1, len(w.code)+q-1)
	w.moveBack(q, zero)
}
