package engine

import "lien/api"

// waiter is what waits for a number of the store's.
type waiter interface {
	waitsFor() int
}

// reply is a reply that waits.
type reply struct {
	seq    int
	answer api.Answer
}

// message is a message that waits.
type message struct {
	seq     int
	message api.Message
}

// waitsFor is the number.
func (r reply) waitsFor() int { return r.seq }

// waitsFor is the number.
func (m message) waitsFor() int { return m.seq }

// queue is a row of things: what is put in first is taken first.
type queue[T any] struct {
	rows []T
}

// put: one more.
func (q *queue[T]) put(x T) {
	q.rows = append(q.rows, x)
}

// many is how many there are.
func (q *queue[T]) many() int {
	return len(q.rows)
}

// first is the first one, which there must be.
func (q *queue[T]) first() T {
	return q.rows[0]
}

// take is the first one, which is there no more.
func (q *queue[T]) take() T {
	x := q.rows[0]
	q.rows = q.rows[1:]
	return x
}
