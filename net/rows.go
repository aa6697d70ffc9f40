package net

import "slices"

// row is things, one behind the other.
type row[T any] []T

// put: one more.
func (r *row[T]) put(x T) {
	*r = append(*r, x)
}

// take is the i-th, which is there no more.
func (r *row[T]) take(i int) T {
	x := (*r)[i]
	*r = slices.Delete(*r, i, i+1)
	return x
}

// book is things by their numbers.
type book[T any] map[int]T

// all are all things, by their numbers.
func (b book[T]) all() []T {
	var numbers []int
	for n := range b {
		numbers = append(numbers, n)
	}
	slices.Sort(numbers)
	var l []T
	for _, n := range numbers {
		l = append(l, b[n])
	}
	return l
}
