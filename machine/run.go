package machine

import (
	"errors"

	"evictor/api"
	"evictor/policy"
)

// What may be wrong with a step.
var (
	ErrFull  = errors.New("the queue holds its capacity already")
	ErrEmpty = errors.New("the queue is empty")
)

// run is one rule's, for one key.
type run struct {
	program *program
	state   state
	key     uint64
	evicted []uint64
	left    [api.MaxLoops]int // how many times each of the loops within each other may still go
}

// goThrough ends: only a loop goes back, and it counts down.
func (r *run) goThrough(steps []step) error {
	var s step
	at := 0
next:
	if at == len(steps) {
		return nil
	}
	s = steps[at]
	at++
	switch s.kind {
	case startStep:
		r.left[s.loop] = s.times
		goto next
	case countStep:
		if r.left[s.loop] == 0 {
			goto target
		}
		r.left[s.loop]--
		goto next
	case fullStep, emptyStep, warmStep, lessStep:
		if r.isSo(s) == s.not {
			goto target
		}
		goto next
	case jumpStep:
		goto target
	}
	if err := r.do(s); err != nil {
		return err
	}
	goto next
target:
	at = s.target
	goto next
}

// isSo answers what a condition says, its not left aside.
func (r *run) isSo(s step) bool {
	a := r.state.arena
	switch s.kind {
	case fullStep:
		return a.full(s.on.index)
	case emptyStep:
		return a.length(s.on.index) == 0
	case warmStep:
		key, ok := a.tail(s.on.index)
		return ok && a.freq(key) > 0
	}
	return r.value(s.left) < r.value(s.right)
}

func (r *run) value(o operand) int {
	switch o.kind {
	case policy.OfVar:
		return r.state.vars[o.number]
	case policy.OfLen:
		return r.state.arena.length(o.number)
	case policy.OfFreq:
		return r.state.arena.freq(r.key)
	}
	return o.number
}

// do does a step that is a statement.
func (r *run) do(s step) error {
	vars, most := r.state.vars, r.program.most
	switch s.kind {
	case putStep:
		return r.move(r.key, s.on, s.tail)
	case evictStep, shiftStep, coolStep:
		return r.doAtTail(s)
	case dropStep:
		r.forget(r.key)
	case incStep:
		vars[s.on.index] = min(vars[s.on.index]+1, most[s.on.index])
	case decStep:
		vars[s.on.index] = max(vars[s.on.index]-1, 0)
	case bumpStep:
		r.addFreq(r.key, 1)
	}
	return nil
}

// doAtTail does a step with the entry at a queue's tail.
func (r *run) doAtTail(s step) error {
	key, ok := r.state.arena.tail(s.on.index)
	if !ok {
		return &policy.Fault{Err: ErrEmpty, At: s.on.at}
	}
	switch s.kind {
	case evictStep:
		r.forget(key)
	case shiftStep:
		return r.move(key, s.to, s.tail)
	case coolStep:
		r.addFreq(key, -1)
	}
	return nil
}

// addFreq adds to a key's frequency, within its bounds.
func (r *run) addFreq(key uint64, by int) {
	freq := r.state.arena.freq(key) + by
	r.state.arena.setFreq(key, max(0, min(freq, r.program.mostFreq)))
}

func (r *run) move(key uint64, to ref, tail bool) error {
	was := r.cached(key)
	if !r.state.arena.move(key, to.index, tail) {
		return &policy.Fault{Err: ErrFull, At: to.at}
	}
	r.tellIfLeft(key, was)
	return nil
}

func (r *run) forget(key uint64) {
	was := r.cached(key)
	r.state.arena.forget(key)
	r.tellIfLeft(key, was)
}

// tellIfLeft tells a key as evicted that was in the cache and is no more.
func (r *run) tellIfLeft(key uint64, was bool) {
	if was && !r.cached(key) {
		r.evicted = append(r.evicted, key)
	}
}

// cached answers whether a key is in the cache.
func (r *run) cached(key uint64) bool {
	q, ok := r.state.arena.find(key)
	return ok && !r.program.ghosts[q]
}
