// Package engine: caches whose keys a policy keeps: see DOC.md.
package engine

import (
	"evictor/api"
	"evictor/machine"
	"evictor/policy"
)

// Engine: of a policy.
type Engine struct {
	policy  *policy.Policy
	machine *machine.Machine
	counts  api.Counts
}

// Load: the engine of a policy, or what is wrong with it, and where (P2).
func Load(src string) (*Engine, api.Errno, int) {
	p, err := policy.Read(src)
	if err != nil {
		return nil, errno(err), place(err)
	}
	return &Engine{policy: p, machine: machine.New(p)}, api.OK, 0
}

// loaded tells Load's engines from others, which have no policy.
func (e *Engine) loaded() bool { return e != nil && e.policy != nil }

// Text: the policy's one text (P3).
func (e *Engine) Text() string {
	if !e.loaded() {
		return ""
	}
	return e.policy.Text()
}

// Access: a key is asked for (P4).
func (e *Engine) Access(key uint64) (bool, []uint64, api.Errno) {
	if !e.loaded() {
		return false, nil, api.OK
	}
	hit, evicted, err := e.machine.Access(key)
	if err != nil {
		return false, nil, errno(err)
	}
	e.count(hit, len(evicted))
	return hit, evicted, api.OK
}

// count is for the calls of Access without an error, which alone count.
func (e *Engine) count(hit bool, evicted int) {
	if hit {
		e.counts.Hits++
	} else {
		e.counts.Misses++
	}
	e.counts.Evicted += evicted
}

// Remove: a key leaves its queue (P4).
func (e *Engine) Remove(key uint64) bool {
	return e.loaded() && e.machine.Remove(key)
}

// Keys: of a queue, from its head on (P5).
func (e *Engine) Keys(name string) ([]uint64, api.Errno) {
	if !e.loaded() {
		return nil, api.ErrName
	}
	keys, err := e.machine.Keys(name)
	if err != nil {
		return nil, errno(err)
	}
	return keys, api.OK
}

// Value: of a variable (P5).
func (e *Engine) Value(name string) (int, api.Errno) {
	if !e.loaded() {
		return 0, api.ErrName
	}
	value, err := e.machine.Value(name)
	if err != nil {
		return 0, errno(err)
	}
	return value, api.OK
}

// Counts: of what has been (P5).
func (e *Engine) Counts() api.Counts {
	if !e.loaded() {
		return api.Counts{}
	}
	return e.counts
}
