package store

import "slices"

// undoing is what undoes some steps, in the order in which they were done.
type undoing []func()

// run goes backwards: two steps may have changed the same thing, and what stood there ahead of the first is to stand there again.
func (u undoing) run() {
	for _, step := range slices.Backward(u) {
		step()
	}
}

// put lets a key of a map have that value, and answers what undoes it.
func put[K comparable, V any](m map[K]V, key K, value V) func() {
	before, ok := m[key]
	m[key] = value
	if !ok {
		return func() { delete(m, key) }
	}
	return func() { m[key] = before }
}

// take takes a key that is there out of a map, and answers what undoes it.
func take[K comparable, V any](m map[K]V, key K) func() {
	before := m[key]
	delete(m, key)
	return func() { m[key] = before }
}
