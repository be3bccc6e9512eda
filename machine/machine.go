// Package machine makes a policy into a program of small steps, and runs it for the keys that are asked for.
package machine

import (
	"errors"
	"slices"

	"evictor/policy"
)

// ErrName is told for a name that is no queue's, or no variable's, where one is asked for.
var ErrName = errors.New("nothing of the kind has that name")

// Machine is a policy's program, and the state that its runs have led to.
type Machine struct {
	program program
	state   state
}

// state is what a run may change.
type state struct {
	arena *arena
	vars  []int
}

func (s state) clone() state {
	return state{arena: s.arena.clone(), vars: slices.Clone(s.vars)}
}

// New answers the machine of a policy that Read has found to be right.
func New(p *policy.Policy) *Machine {
	m := &Machine{program: compile(p)}
	m.state = state{arena: newArena(m.program.rooms), vars: make([]int, len(m.program.most))}
	return m
}

// Access runs the rule for a key. It answers whether the key was in the cache and which keys were evicted, or a *policy.Fault.
func (m *Machine) Access(key uint64) (bool, []uint64, error) {
	// A run that fails halfway leaves nothing behind but its copy.
	r := &run{program: &m.program, state: m.state.clone(), key: key}
	hit := r.cached(key)
	if err := r.goThrough(m.rule(key)); err != nil {
		return false, nil, err
	}
	m.state = r.state
	return hit, r.evicted, nil
}

// rule answers the steps for a key, none if there is no rule for its queue.
func (m *Machine) rule(key uint64) []step {
	q, ok := m.state.arena.find(key)
	if !ok {
		return m.program.rules[policy.Miss]
	}
	return m.program.rules[m.program.queues[q]]
}

// Remove forgets a key's entry and answers whether there was one.
func (m *Machine) Remove(key uint64) bool {
	return m.state.arena.forget(key)
}

// Keys answers a queue's keys from its head to its tail, or ErrName.
func (m *Machine) Keys(name string) ([]uint64, error) {
	q := slices.Index(m.program.queues, name)
	if q < 0 {
		return nil, ErrName
	}
	return m.state.arena.keys(q), nil
}

// Value answers a variable's value, or ErrName.
func (m *Machine) Value(name string) (int, error) {
	v := slices.Index(m.program.vars, name)
	if v < 0 {
		return 0, ErrName
	}
	return m.state.vars[v], nil
}
