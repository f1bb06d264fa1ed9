package slots

import "slices"

// queue has what waits to be fetched, the first one first. A nil one has nothing.
type queue[T any] struct {
	items []T
}

func (q *queue[T]) add(x T) {
	q.items = append(q.items, x)
}

func (q *queue[T]) first() (T, bool) {
	if q == nil || len(q.items) == 0 {
		var none T
		return none, false
	}
	return q.items[0], true
}

// take has the first one be gone. The others move up, so that the queue's memory holds nothing that is gone.
func (q *queue[T]) take() (T, bool) {
	x, ok := q.first()
	if ok {
		q.items = slices.Delete(q.items, 0, 1)
	}
	return x, ok
}
