package ring

import (
	"granary/api"
)

// round has values in slots that are gone round: from its head up to its tail, the first one first. The slot of the tail is always empty, so that a full one is not taken for one without values.
type round[T any] struct {
	slots      []T
	head, tail int
}

// newRound makes one of n slots.
func newRound[T any](n int) (round[T], error) {
	if n < 2 || n > api.MaxRing {
		return round[T]{}, api.ErrRange
	}
	return round[T]{slots: make([]T, n)}, nil
}

// push lets a value stand at the tail.
func (r *round[T]) push(value T) error {
	if r.isFull() {
		return api.ErrFull
	}
	r.slots[r.tail] = value
	r.tail = r.behind(r.tail)
	return nil
}

// pop takes the value at the head out.
func (r *round[T]) pop() (T, error) {
	var none T
	if r.head == r.tail {
		return none, api.ErrNone
	}
	value := r.slots[r.head]
	// What was popped is kept no longer.
	r.slots[r.head] = none
	r.head = r.behind(r.head)
	return value, nil
}

// isFull tells whether there is no room for a value more.
func (r *round[T]) isFull() bool {
	return r.behind(r.tail) == r.head
}

// count tells how many values there are.
func (r *round[T]) count() int {
	n := len(r.slots)
	return (r.tail - r.head + n) % n
}

// behind gives the slot behind another one.
func (r *round[T]) behind(slot int) int {
	return (slot + 1) % len(r.slots)
}

// has tells whether there is such a slot.
func (r *round[T]) has(slot int) bool {
	return 0 <= slot && slot < len(r.slots)
}
