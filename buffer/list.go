package buffer

// list has values in the order in which they came. Any of them can go, and none of the others is moved or looked at for it.
type list[T any] struct {
	first, last *entry[T]
}

// entry of a list, between the one ahead of it and the one behind it; nil where there is none.
type entry[T any] struct {
	value         T
	ahead, behind *entry[T]
}

// add lets a value stand last.
func (l *list[T]) add(value T) *entry[T] {
	e := &entry[T]{value: value, ahead: l.last}
	if l.last == nil {
		l.first = e
	} else {
		l.last.behind = e
	}
	l.last = e
	return e
}

// remove takes out an entry that is in the list.
func (l *list[T]) remove(e *entry[T]) {
	if e.ahead == nil {
		l.first = e.behind
	} else {
		e.ahead.behind = e.behind
	}
	if e.behind == nil {
		l.last = e.ahead
	} else {
		e.behind.ahead = e.ahead
	}
}
