package tag

import "slices"

// queue is a list of letters that are appended at its end and deleted at its beginning.
type queue[T any] struct {
	items []T
	first int // the items before this one are deleted
}

func newQueue[T any](items []T) *queue[T] {
	return &queue[T]{items: slices.Clone(items)}
}

func (q *queue[T]) len() int {
	return len(q.items) - q.first
}

func (q *queue[T]) front() T {
	return q.items[q.first]
}

func (q *queue[T]) add(items []T) {
	q.items = append(q.items, items...)
}

func (q *queue[T]) drop(n int) {
	q.first += n
	// Moving the rest when it is the smaller part costs no more than the deletions before.
	if q.first > len(q.items)/2 {
		rest := copy(q.items, q.items[q.first:])
		q.items = q.items[:rest]
		q.first = 0
	}
}

func (q *queue[T]) list() []T {
	return slices.Clone(q.items[q.first:])
}
