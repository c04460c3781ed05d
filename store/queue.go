package store

// queue is a list that grows at its end, and goes from its front on.
type queue[T any] struct {
	places []T
	gone   int // how many places at the front are empty
}

func (q *queue[T]) all() []T {
	return q.places[q.gone:]
}

func (q *queue[T]) add(x T) {
	q.places = append(q.places, x)
}

// drop lets the first n go. What is left moves only where more places are empty than not, so many short drops move little; and it moves into new memory, so the old is free.
func (q *queue[T]) drop(n int) {
	clear(q.places[q.gone : q.gone+n])
	q.gone += n
	if left := q.all(); q.gone > len(left) {
		q.places, q.gone = append([]T(nil), left...), 0
	}
}
