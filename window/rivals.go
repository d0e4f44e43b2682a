package window

type rival[T any] struct {
	place int
	value T
}

// rivals holds only those values that may still become the best: each one beats all behind it,
// so that a row of any window is gone through in steps of its length, not of length times window.
type rivals[T any] struct {
	beats func(a, b T) bool
	left  []rival[T]
}

func (r *rivals[T]) add(place int, value T) {
	stay := len(r.left)
	for stay > 0 && !r.beats(r.left[stay-1].value, value) {
		stay--
	}
	r.left = append(r.left[:stay], rival[T]{place, value})
}

// best needs one rival at begin or behind it; the one added last always is.
func (r *rivals[T]) best(begin int) T {
	for r.left[0].place < begin {
		r.left = r.left[1:]
	}
	return r.left[0].value
}
