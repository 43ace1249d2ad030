package chain

import "iter"

// All goes through the links, the newest first. A walk holds the list that was there when it began; that one neither Add nor Prune changes.
func (c *Chain[V]) All() iter.Seq[Link[V]] {
	return func(yield func(Link[V]) bool) {
		if c == nil {
			return
		}
		links := c.links
		for i := len(links) - 1; i >= 0; i-- {
			if !yield(links[i]) {
				return
			}
		}
	}
}
