package proof

import (
	"strconv"
	"strings"

	"standstill/api"
)

// writer writes words; when they are too many, it leaves out the rest.
type writer struct {
	text []byte
}

func (w *writer) tooLong() bool {
	return len(w.text) > api.MaxText
}

func (w *writer) number(n int) {
	if w.tooLong() {
		return
	}
	if len(w.text) > 0 {
		w.text = append(w.text, ' ')
	}
	w.text = strconv.AppendInt(w.text, int64(n), 10)
}

func (w *writer) bool(b bool) {
	if b {
		w.number(1)
	} else {
		w.number(0)
	}
}

func writeList[T any](w *writer, list []T, write func(x T)) {
	w.number(len(list))
	for _, x := range list {
		if w.tooLong() {
			return
		}
		write(x)
	}
}

func (w *writer) words(list [][]int) {
	number := w.number
	writeList(w, list, func(word []int) { writeList(w, word, number) })
}

func (w *writer) edges(list [][2]int) {
	writeList(w, list, func(e [2]int) {
		w.number(e[0])
		w.number(e[1])
	})
}

func (w *writer) closed(c api.Closed) {
	w.words(c.Left)
	w.words(c.Right)
	w.edges(c.LeftEdges)
	w.edges(c.RightEdges)
	writeList(w, c.Set, func(x [4]int) {
		for _, n := range x {
			w.number(n)
		}
	})
}

func (w *writer) shape(s api.Shape) {
	w.bool(s.Mirrored)
	w.number(s.State)
	w.words(s.Words)
	w.words(s.Repeats)
	w.number(s.First)
}

// Text returns the text of a certificate.
func Text(c api.Cert) (string, api.Errno) {
	if !plain(c) {
		return "", api.ErrForm
	}
	w := &writer{}
	w.number(c.Kind)
	switch c.Kind {
	case api.CertStop, api.CertBack:
		w.number(c.A)
	case api.CertLoop:
		w.number(c.A)
		w.number(c.B)
		w.bool(c.Right)
	case api.CertClosed:
		w.closed(c.Closed)
	case api.CertShape:
		w.number(c.A)
		w.shape(c.Shape)
	}
	if w.tooLong() {
		return "", api.ErrSize
	}
	return string(w.text), api.OK
}

// reader reads words. It panics where one is missing or is not what it should be; Parse recovers.
type reader struct {
	words []string
}

func (r *reader) number() int {
	if len(r.words) == 0 {
		panic("a word is missing")
	}
	word := r.words[0]
	n, err := strconv.Atoi(word)
	if err != nil || strconv.Itoa(n) != word {
		panic("a word is not a number")
	}
	r.words = r.words[1:]
	return n
}

func (r *reader) bool() bool {
	n := r.number()
	if n != 0 && n != 1 {
		panic("a word is not a bool")
	}
	return n == 1
}

func readList[T any](r *reader, read func() T) []T {
	n := r.number()
	if n < 0 {
		panic("a length is negative")
	}
	var out []T
	for range n {
		out = append(out, read())
	}
	return out
}

func (r *reader) list() []int {
	return readList(r, r.number)
}

func (r *reader) wordLists() [][]int {
	return readList(r, r.list)
}

func (r *reader) edge() [2]int {
	q := r.number()
	return [2]int{q, r.number()}
}

func (r *reader) element() [4]int {
	var x [4]int
	for i := range x {
		x[i] = r.number()
	}
	return x
}

func (r *reader) closed() api.Closed {
	var c api.Closed
	c.Left = r.wordLists()
	c.Right = r.wordLists()
	c.LeftEdges = readList(r, r.edge)
	c.RightEdges = readList(r, r.edge)
	c.Set = readList(r, r.element)
	return c
}

func (r *reader) shape() api.Shape {
	var s api.Shape
	s.Mirrored = r.bool()
	s.State = r.number()
	s.Words = r.wordLists()
	s.Repeats = r.wordLists()
	s.First = r.number()
	return s
}

func (r *reader) cert() api.Cert {
	c := api.Cert{Kind: r.number()}
	switch c.Kind {
	case api.CertStop, api.CertBack:
		c.A = r.number()
	case api.CertLoop:
		c.A = r.number()
		c.B = r.number()
		c.Right = r.bool()
	case api.CertClosed:
		c.Closed = r.closed()
	case api.CertShape:
		c.A = r.number()
		c.Shape = r.shape()
	default:
		panic("there is no such kind")
	}
	if len(r.words) > 0 {
		panic("there are further words")
	}
	return c
}

// Parse returns the certificate of a text.
func Parse(s string) (c api.Cert, e api.Errno) {
	if len(s) > api.MaxText {
		return api.Cert{}, api.ErrParse
	}
	defer func() {
		if recover() != nil {
			c, e = api.Cert{}, api.ErrParse
		}
	}()
	r := &reader{words: strings.Split(s, " ")}
	return r.cert(), api.OK
}
