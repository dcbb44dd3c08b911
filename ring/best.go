package ring

// best holds the best of all that it was offered, if it was offered anything: of several that are as good the first one.
type best[T any] struct {
	better func(a, b T) bool
	is     T
	ok     bool
}

// of returns the best with some more offers.
func (b best[T]) of(offers ...T) best[T] {
	for _, x := range offers {
		if !b.ok || b.better(x, b.is) {
			b.is, b.ok = x, true
		}
	}
	return b
}
