package graph

// set has each of its things once.
type set[T comparable] map[T]struct{}

// add puts a thing in, and tells whether it was not in there yet.
func (s set[T]) add(thing T) bool {
	_, isThere := s[thing]
	s[thing] = struct{}{}
	return !isThere
}

// key is what a Map has once.
type key struct {
	kind int
	text string
}
