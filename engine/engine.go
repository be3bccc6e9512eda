// Package engine: caches whose keys a policy keeps: see DOC.md.
package engine

import (
	"evictor/api"
	"evictor/policy"
)

// Engine: of a policy.
type Engine struct {
	policy *policy.Policy
}

// Load: the engine of a policy, or what is wrong with it, and where (P2).
func Load(src string) (*Engine, api.Errno, int) {
	p, err := policy.Read(src)
	if err != nil {
		return nil, errno(err), place(err)
	}
	return &Engine{policy: p}, api.OK, 0
}

// Text: the policy's one text (P3).
func (e *Engine) Text() string {
	if e == nil || e.policy == nil {
		return "" // an engine that is not Load's has no policy
	}
	return e.policy.Text()
}

// Access: a key is asked for (P4).
func (e *Engine) Access(key uint64) (bool, []uint64, api.Errno) { return false, nil, api.OK }

// Remove: a key leaves its queue (P4).
func (e *Engine) Remove(key uint64) bool { return false }

// Keys: of a queue, from its head on (P5).
func (e *Engine) Keys(name string) ([]uint64, api.Errno) { return nil, api.OK }

// Value: of a variable (P5).
func (e *Engine) Value(name string) (int, api.Errno) { return 0, api.OK }

// Counts: of what has been (P5).
func (e *Engine) Counts() api.Counts { return api.Counts{} }
