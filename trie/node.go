package trie

import (
	"math/bits"
	"slices"

	"marline/mix"
)

// node is a part of a map, at one level. Each node but a map's first one has
// at least two keys, so that a map's nodes hang on its keys alone, not on the
// way on which it came to them. A node stays at its level and behind the same
// bits in every map that has it.
type node[V any] struct {
	has  uint16   // the bit 1<<n is set if there is an arm for the four bits n
	arms []arm[V] // these arms, by rising four bits
}

// arm is what hangs on a node: a further node, or, where that is nil, a pair.
type arm[V any] struct {
	next *node[V]
	pair Pair[V]
}

// nib is the four bits by which a level tells keys apart.
func nib(key, level int) int { return mix.Nib(mix.Key(key), level) }

// lone is a node with one pair.
func lone[V any](p Pair[V], level int) *node[V] {
	return &node[V]{1 << nib(p.Key, level), []arm[V]{{pair: p}}}
}

// find is where the arm of four bits stands, or would stand, and if it is there.
func (n *node[V]) find(four int) (int, bool) {
	bit := uint16(1) << four
	return bits.OnesCount16(n.has & (bit - 1)), n.has&bit != 0
}

// below is the node that hangs on the arm of four bits, nil if there is none.
func (n *node[V]) below(four int) *node[V] {
	if at, ok := n.find(four); ok {
		return n.arms[at].next
	}
	return nil
}

// get is a key's value, sought from a map's first node on.
func (n *node[V]) get(key int) (V, bool) {
	var none V
	for level := 0; ; level++ {
		at, ok := n.find(nib(key, level))
		if !ok {
			return none, false
		}
		a := n.arms[at]
		if a.next == nil && a.pair.Key == key {
			return a.pair.V, true
		}
		if a.next == nil {
			return none, false
		}
		n = a.next
	}
}

// put is the node with a pair. Two keys have two numbers, so that a level that
// tells them apart comes at last.
func (n *node[V]) put(p Pair[V], level int) *node[V] {
	four := nib(p.Key, level)
	at, ok := n.find(four)
	if !ok {
		arms := slices.Concat(n.arms[:at], []arm[V]{{pair: p}}, n.arms[at:])
		return &node[V]{n.has | 1<<four, arms}
	}
	a := n.arms[at]
	switch {
	case a.next != nil:
		return n.with(at, arm[V]{next: a.next.put(p, level+1)})
	case a.pair.Key == p.Key:
		return n.with(at, arm[V]{pair: p})
	default:
		return n.with(at, arm[V]{next: lone(a.pair, level+1).put(p, level+1)})
	}
}

// drop is the node without a key that it has beside others.
func (n *node[V]) drop(key, level int) *node[V] {
	four := nib(key, level)
	at, _ := n.find(four)
	next := n.arms[at].next
	if next == nil {
		arms := slices.Concat(n.arms[:at], n.arms[at+1:])
		return &node[V]{n.has &^ (1 << four), arms}
	}
	rest := next.drop(key, level+1)
	if len(rest.arms) == 1 && rest.arms[0].next == nil {
		return n.with(at, rest.arms[0])
	}
	return n.with(at, arm[V]{next: rest})
}

// with is the node with another arm at a place.
func (n *node[V]) with(at int, a arm[V]) *node[V] {
	arms := slices.Clone(n.arms)
	arms[at] = a
	return &node[V]{n.has, arms}
}

// pairs are these pairs and the node's, as they lie.
func (n *node[V]) pairs(l []Pair[V]) []Pair[V] {
	for _, a := range n.arms {
		if a.next != nil {
			l = a.next.pairs(l)
		} else {
			l = append(l, a.pair)
		}
	}
	return l
}

// shared is how many nodes both have. A node that both have is behind the same
// bits in both.
func shared[V any](a, b *node[V]) int {
	if a == nil || b == nil {
		return 0
	}
	sum := 0
	if a == b {
		sum = 1
	}
	for four := range 16 {
		sum += shared(a.below(four), b.below(four))
	}
	return sum
}
