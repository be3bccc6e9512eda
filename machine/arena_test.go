package machine

import (
	"math/rand/v2"
	"slices"
	"testing"
)

// checkArena holds the links against each other: each node is in one ring, or free, and each ring is one from both sides.
func checkArena(t *testing.T, a *arena) {
	t.Helper()
	seen := 0
	for q, queue := range a.queues {
		var back []uint64
		for n := a.nodes[q].prev; n != q; n = a.nodes[n].prev {
			x := a.nodes[n]
			if at, ok := a.where[x.key]; !ok || at != n || x.queue != q {
				t.Fatalf("key %d is in queue %d as node %d, but said to be node %d of queue %d", x.key, q, n, at, x.queue)
			}
			back = append(back, x.key)
		}
		slices.Reverse(back)
		if there := a.keys(q); !slices.Equal(there, back) {
			t.Fatalf("queue %d is %v from its head on, %v from its tail on", q, there, back)
		}
		if len(back) != queue.length || len(back) > queue.room {
			t.Fatalf("queue %d has %d entries of %d, and says %d", q, len(back), queue.room, queue.length)
		}
		seen += 1 + len(back)
	}
	if entries := seen - len(a.queues); entries != len(a.where) {
		t.Fatalf("%d entries, but %d keys", entries, len(a.where))
	}
	for n := a.free; n != none; n = a.nodes[n].next {
		seen++
	}
	if seen != len(a.nodes) {
		t.Fatalf("%d nodes are in use or free, of %d", seen, len(a.nodes))
	}
}

func TestArenaMoves(t *testing.T) {
	a := newArena([]int{3, 1})
	for _, c := range []struct {
		key  uint64
		to   int
		tail bool
		ok   bool
		want [2][]uint64
	}{
		{1, 0, false, true, [2][]uint64{{1}, nil}},
		{2, 0, false, true, [2][]uint64{{2, 1}, nil}},
		{3, 0, true, true, [2][]uint64{{2, 1, 3}, nil}},
		{4, 0, false, false, [2][]uint64{{2, 1, 3}, nil}},
		{1, 0, false, true, [2][]uint64{{1, 2, 3}, nil}},
		{2, 0, true, true, [2][]uint64{{1, 3, 2}, nil}},
		{2, 0, true, true, [2][]uint64{{1, 3, 2}, nil}},
		{3, 1, true, true, [2][]uint64{{1, 2}, {3}}},
		{3, 1, false, true, [2][]uint64{{1, 2}, {3}}},
		{2, 1, false, false, [2][]uint64{{1, 2}, {3}}},
		{9, 1, false, false, [2][]uint64{{1, 2}, {3}}},
		{3, 0, false, true, [2][]uint64{{3, 1, 2}, nil}},
	} {
		if ok := a.move(c.key, c.to, c.tail); ok != c.ok {
			t.Errorf("moving %d to %d: %v", c.key, c.to, ok)
		}
		checkArena(t, a)
		for q, want := range c.want {
			if got := a.keys(q); !slices.Equal(got, want) {
				t.Errorf("behind moving %d to %d: queue %d is %v, want %v", c.key, c.to, q, got, want)
			}
		}
	}
}

// However much comes and goes, there are no more nodes than the queues have room for.
func TestArenaUsesNodesAgain(t *testing.T) {
	r := rand.New(rand.NewPCG(3, 4))
	rooms := []int{2, 5, 3}
	a := newArena(rooms)
	for range 20000 {
		key, q := r.Uint64N(20), r.IntN(len(rooms))
		if r.IntN(3) == 0 {
			a.forget(key)
		} else {
			a.move(key, q, r.IntN(2) == 0)
		}
		checkArena(t, a)
	}
	if most := len(rooms) + 2 + 5 + 3; len(a.nodes) > most {
		t.Errorf("%d nodes, want at most %d", len(a.nodes), most)
	}
}

func TestArenaCopiesStandAlone(t *testing.T) {
	a := newArena([]int{3, 3})
	for key := range uint64(3) {
		a.move(key, 0, false)
	}
	a.forget(1)
	b := a.clone()
	a.move(5, 0, false)
	a.setFreq(0, 7)
	b.move(2, 1, false)
	b.move(6, 1, false)
	b.forget(0)
	checkArena(t, a)
	checkArena(t, b)
	if got := a.keys(0); !slices.Equal(got, []uint64{5, 2, 0}) || a.freq(0) != 7 || a.length(1) != 0 {
		t.Errorf("the first became %v", got)
	}
	if got := b.keys(1); !slices.Equal(got, []uint64{6, 2}) || b.length(0) != 0 || b.freq(0) != 0 {
		t.Errorf("the copy became %v", got)
	}
}

func TestArenaForgetsFrequencies(t *testing.T) {
	a := newArena([]int{1, 1})
	a.setFreq(1, 3)
	a.move(1, 0, false)
	if a.freq(1) != 0 {
		t.Error("a key in no queue got a frequency")
	}
	a.setFreq(1, 3)
	a.move(1, 1, true)
	if a.freq(1) != 3 {
		t.Error("the frequency did not go along")
	}
	a.forget(1)
	a.move(1, 1, false)
	if a.freq(1) != 0 {
		t.Error("the frequency was not forgotten")
	}
}
