package machine

import (
	"maps"
	"slices"
)

// none is the number of no node.
const none = -1

// node is an entry, and the numbers of its neighbours in its queue.
type node struct {
	key   uint64
	freq  int
	queue int
	prev  int // towards the head
	next  int // towards the tail
}

type queue struct {
	length, room int
}

// arena holds the entries of all queues, linked through one list of nodes. The node of a queue's own number is no entry but closes the queue to a ring: its next is the head, its prev the tail.
type arena struct {
	nodes  []node
	free   int // the first node that is in no ring; the others follow by next
	where  map[uint64]int
	queues []queue
}

func newArena(rooms []int) *arena {
	a := &arena{free: none, where: map[uint64]int{}}
	for q, room := range rooms {
		a.nodes = append(a.nodes, node{queue: q, prev: q, next: q})
		a.queues = append(a.queues, queue{room: room})
	}
	return a
}

func (a *arena) clone() *arena {
	return &arena{
		nodes:  slices.Clone(a.nodes),
		free:   a.free,
		where:  maps.Clone(a.where),
		queues: slices.Clone(a.queues),
	}
}

// find answers the queue in which a key stands, if it stands in one.
func (a *arena) find(key uint64) (int, bool) {
	n, ok := a.where[key]
	if !ok {
		return 0, false
	}
	return a.nodes[n].queue, true
}

func (a *arena) length(q int) int { return a.queues[q].length }

func (a *arena) full(q int) bool { return a.queues[q].length == a.queues[q].room }

// keys answers the keys of a queue's entries, from its head to its tail.
func (a *arena) keys(q int) []uint64 {
	keys := make([]uint64, 0, a.length(q))
	for n := a.nodes[q].next; n != q; n = a.nodes[n].next {
		keys = append(keys, a.nodes[n].key)
	}
	return keys
}

// tail answers the key of the entry at a queue's tail, if there is one.
func (a *arena) tail(q int) (uint64, bool) {
	if a.queues[q].length == 0 {
		return 0, false
	}
	return a.nodes[a.nodes[q].prev].key, true
}

// freq answers a key's frequency: 0, if it stands in no queue.
func (a *arena) freq(key uint64) int {
	n, ok := a.where[key]
	if !ok {
		return 0
	}
	return a.nodes[n].freq
}

// setFreq does nothing for a key that stands in no queue.
func (a *arena) setFreq(key uint64, freq int) {
	if n, ok := a.where[key]; ok {
		a.nodes[n].freq = freq
	}
}

// move brings a key's entry, or a new one, to the head or tail of a queue; or does nothing and answers false, if there is no room.
func (a *arena) move(key uint64, to int, tail bool) bool {
	n, ok := a.where[key]
	// An entry of the queue itself makes room by leaving.
	if a.full(to) && !(ok && a.nodes[n].queue == to) {
		return false
	}
	if ok {
		a.unlink(n)
	} else {
		n = a.add(key)
	}
	a.link(n, to, tail)
	return true
}

// forget answers whether the key stood in a queue.
func (a *arena) forget(key uint64) bool {
	n, ok := a.where[key]
	if !ok {
		return false
	}
	a.unlink(n)
	delete(a.where, key)
	a.nodes[n] = node{next: a.free}
	a.free = n
	return true
}

// add makes an entry that is in no ring yet.
func (a *arena) add(key uint64) int {
	n := a.free
	if n == none {
		n = len(a.nodes)
		a.nodes = append(a.nodes, node{})
	} else {
		a.free = a.nodes[n].next
	}
	a.nodes[n] = node{key: key}
	a.where[key] = n
	return n
}

func (a *arena) link(n, q int, tail bool) {
	next := a.nodes[q].next
	if tail {
		next = q
	}
	prev := a.nodes[next].prev
	a.nodes[n].queue, a.nodes[n].prev, a.nodes[n].next = q, prev, next
	a.nodes[prev].next = n
	a.nodes[next].prev = n
	a.queues[q].length++
}

func (a *arena) unlink(n int) {
	left := a.nodes[n]
	a.nodes[left.prev].next = left.next
	a.nodes[left.next].prev = left.prev
	a.queues[left.queue].length--
}
