package mem

import "iter"

// node is a balanced tree of items in order: the heights of both its sides differ by 1 at most. No tree: nil. A node is never changed.
type node[T any] struct {
	item        T
	left, right *node[T]
	height      int
}

// join is the tree of an item, and of what is ahead of it and behind it.
func join[T any](left *node[T], item T, right *node[T]) *node[T] {
	return &node[T]{item: item, left: left, right: right, height: 1 + max(left.tall(), right.tall())}
}

// tall is how high a tree is.
func (n *node[T]) tall() int {
	if n == nil {
		return 0
	}
	return n.height
}

// with is the tree with an item more.
func (n *node[T]) with(item T, compare func(a, b T) int) *node[T] {
	switch {
	case n == nil:
		return join(nil, item, nil)
	case compare(item, n.item) < 0:
		return level(n.left.with(item, compare), n.item, n.right)
	}
	return level(n.left, n.item, n.right.with(item, compare))
}

// level is the balanced tree of an item and two sides, whose heights differ by 2 at most.
func level[T any](left *node[T], item T, right *node[T]) *node[T] {
	switch {
	case left.tall() > right.tall()+1:
		if left.left.tall() < left.right.tall() {
			mid := left.right
			left = join(join(left.left, left.item, mid.left), mid.item, mid.right)
		}
		return join(left.left, left.item, join(left.right, item, right))
	case right.tall() > left.tall()+1:
		if right.right.tall() < right.left.tall() {
			mid := right.left
			right = join(mid.left, mid.item, join(mid.right, right.item, right.right))
		}
		return join(join(left, item, right.left), right.item, right.right)
	}
	return join(left, item, right)
}

// from goes through the items that are not ahead of low, in order.
func (n *node[T]) from(low T, compare func(a, b T) int) iter.Seq[T] {
	return func(yield func(T) bool) {
		n.walk(low, compare, yield)
	}
}

// walk hands the items that are not ahead of low to yield, in order, till it wants no more.
func (n *node[T]) walk(low T, compare func(a, b T) int, yield func(T) bool) bool {
	if n == nil {
		return true
	}
	if compare(n.item, low) < 0 {
		return n.right.walk(low, compare, yield)
	}
	return n.left.walk(low, compare, yield) && yield(n.item) && n.right.walk(low, compare, yield)
}
