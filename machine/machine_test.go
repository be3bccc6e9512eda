package machine

import (
	"errors"
	"slices"
	"strconv"
	"strings"
	"testing"

	"evictor/policy"
)

func newMachine(t *testing.T, src string) *Machine {
	t.Helper()
	p, err := policy.Read(src)
	if err != nil {
		t.Fatalf("Read(%q): %v", src, err)
	}
	return New(p)
}

// show answers the whole state: each queue with its keys and frequencies, and the values of the variables.
func show(t *testing.T, m *Machine) string {
	t.Helper()
	var b strings.Builder
	for _, name := range m.program.queues {
		keys, err := m.Keys(name)
		if err != nil {
			t.Fatalf("Keys(%q): %v", name, err)
		}
		b.WriteString(name)
		for _, key := range keys {
			b.WriteString(" " + strconv.FormatUint(key, 10) + ":" + strconv.Itoa(m.state.arena.freq(key)))
		}
		b.WriteString("; ")
	}
	b.WriteString("vars")
	for _, name := range m.program.vars {
		value, err := m.Value(name)
		if err != nil {
			t.Fatalf("Value(%q): %v", name, err)
		}
		b.WriteString(" " + strconv.Itoa(value))
	}
	return b.String()
}

func TestP4State(t *testing.T) {
	const clock = "queue r 3; freq 1; on r { bump; } on miss { if full r { repeat 50 while warm r { cool r; shift r r; } evict r; } put r; }"
	for _, c := range []struct {
		src  string
		keys []uint64
		want string
	}{
		{"queue r 2; on r { put r; } on miss { if full r { evict r; } put r; }", []uint64{1, 2, 1, 3}, "r 3:0 1:0; vars"},
		{clock, nil, "r; vars"},
		{clock, []uint64{1, 2, 3, 1, 1}, "r 3:0 2:0 1:1; vars"},
		{clock, []uint64{1, 2, 3, 1, 4}, "r 4:0 1:0 3:0; vars"},
		{"queue in 1; ghost out 2; on miss { if full in { shift in out; } put in; }", []uint64{1, 2, 1}, "in 2:0; out 1:0; vars"},
		{"queue a 1; ghost g 1; on a { put g; } on miss { put a; }", []uint64{5, 5, 5}, "a; g 5:0; vars"},
		{"queue r 1; on miss { put r; drop; }", []uint64{7}, "r; vars"},
		{"var v 2; queue r 9; var w 9; freq 3; on r { bump; bump; dec w; } on miss { inc v; inc w; put r tail; }", []uint64{1, 2, 3, 1, 1}, "r 1:3 2:0 3:0; vars 2 1"},
		{"queue r 9; on r { bump; } on miss { put r; bump; }", []uint64{1, 1}, "r 1:0; vars"},
		{"queue r 9; freq 2; on r { bump; cool r; cool r; cool r; } on miss { put r; cool r; }", []uint64{1, 2, 1, 2}, "r 2:1 1:0; vars"},
		{"queue a 9; ghost g 9; freq 9; on a { bump; shift a g; } on g { bump; put a; } on miss { put a; }", []uint64{1, 1, 1, 2, 2}, "a 2:1; g 1:2; vars"},
	} {
		m := newMachine(t, c.src)
		for _, key := range c.keys {
			if _, _, err := m.Access(key); err != nil {
				t.Errorf("%q: Access(%d): %v", c.src, key, err)
			}
			checkArena(t, m.state.arena)
		}
		if got := show(t, m); got != c.want {
			t.Errorf("%q behind %v:\n got %s\nwant %s", c.src, c.keys, got, c.want)
		}
	}
}

// faulty answers a machine whose rule for miss does the given thing when all queues but the ghost are full.
func faulty(t *testing.T, then string) *Machine {
	t.Helper()
	m := newMachine(t, faultyHead+then+" } } }")
	for _, key := range []uint64{1, 1, 1, 2, 2, 2, 3} {
		if _, _, err := m.Access(key); err != nil {
			t.Fatalf("%q: Access(%d): %v", then, key, err)
		}
	}
	if got := show(t, m); got != "a 2:2 1:2; b 3:1; g; vars 2" {
		t.Fatalf("%q: the state is %s", then, got)
	}
	return m
}

const faultyHead = "queue a 2; queue b 1; ghost g 1; var v 9; freq 9; on a { put b; bump; bump; } on b { inc v; put a; } " +
	"on miss { if len a < 2 { put a; } else { if empty b { put b; bump; } else { "

// What fails is told with its place, where the mark @ stands, and leaves the state as it was.
func TestP4Faults(t *testing.T) {
	for _, c := range []struct {
		marked string
		want   error
	}{
		{"put @b;", ErrFull},
		{"put @a tail;", ErrFull},
		{"evict @g;", ErrEmpty},
		{"inc v; put g; drop; cool @g;", ErrEmpty},
		{"dec v; bump; cool b; shift @g b;", ErrEmpty},
		{"dec v; cool b; shift a @b;", ErrFull},
		{"evict a; put g; bump; shift b @g;", ErrFull},
		{"repeat 9 while 1 < 2 { inc v; shift @a a; evict a; }", ErrEmpty},
		{"shift b g; put b; cool b; evict a; shift b @g tail;", ErrFull},
		{"evict b; evict a; evict a; put a; put b; put g; drop; evict @g;", ErrEmpty},
		{"if full a { cool a; } else { evict g; } if warm a { cool a; cool a; shift @g g; }", ErrEmpty},
	} {
		at := len(faultyHead) + strings.Index(c.marked, "@")
		m := faulty(t, strings.Replace(c.marked, "@", "", 1))
		before := show(t, m)
		found, evicted, err := m.Access(4)
		var fault *policy.Fault
		if found || evicted != nil || !errors.Is(err, c.want) || !errors.As(err, &fault) || fault.At != at {
			t.Errorf("%q: %v, %v, %v, want %v, at %d", c.marked, found, evicted, err, c.want, at)
		}
		if after := show(t, m); after != before {
			t.Errorf("%q: the state was %s and became %s", c.marked, before, after)
		}
		checkArena(t, m.state.arena)
	}
}

func TestP4RemoveState(t *testing.T) {
	m := newMachine(t, "queue r 3; ghost g 2; var v 9; freq 9; on r { bump; } on miss { inc v; if full r { shift r g; } put r; }")
	for _, key := range []uint64{1, 2, 3, 4, 5, 4} {
		m.Access(key)
	}
	for _, c := range []struct {
		key  uint64
		ok   bool
		want string
	}{
		{9, false, "r 5:0 4:1 3:0; g 2:0 1:0; vars 5"},
		{4, true, "r 5:0 3:0; g 2:0 1:0; vars 5"},
		{4, false, "r 5:0 3:0; g 2:0 1:0; vars 5"},
		{1, true, "r 5:0 3:0; g 2:0; vars 5"},
		{5, true, "r 3:0; g 2:0; vars 5"},
		{2, true, "r 3:0; g; vars 5"},
		{3, true, "r; g; vars 5"},
		{3, false, "r; g; vars 5"},
	} {
		if ok := m.Remove(c.key); ok != c.ok || show(t, m) != c.want {
			t.Errorf("Remove(%d): %v and %s, want %v and %s", c.key, ok, show(t, m), c.ok, c.want)
		}
		checkArena(t, m.state.arena)
	}
}

func TestP5Names(t *testing.T) {
	m := newMachine(t, "queue r 1; ghost g 1; var v 9; on miss { put r; inc v; }")
	m.Access(1)
	for _, name := range []string{"", "v", "x", policy.Miss} {
		if keys, err := m.Keys(name); keys != nil || !errors.Is(err, ErrName) {
			t.Errorf("Keys(%q) = %v, %v", name, keys, err)
		}
	}
	for _, name := range []string{"", "r", "g", "x", policy.Miss} {
		if value, err := m.Value(name); value != 0 || !errors.Is(err, ErrName) {
			t.Errorf("Value(%q) = %v, %v", name, value, err)
		}
	}
}

// Each way on leads to a step of the rule, or to its end.
func TestTargets(t *testing.T) {
	m := newMachine(t, "queue r 1; var v 1; on miss { repeat 2 while v < 1 { if full r { } else { repeat 3 while warm r { } } } if empty r { drop; } }")
	steps := m.program.rules[policy.Miss]
	var kinds []stepKind
	for n, s := range steps {
		kinds = append(kinds, s.kind)
		if s.target < 0 || s.target > len(steps) || s.kind >= fullStep && s.kind <= lessStep && s.target <= n {
			t.Errorf("step %d leads to %d", n, s.target)
		}
	}
	want := []stepKind{startStep, countStep, lessStep, fullStep, jumpStep, startStep, countStep, warmStep, jumpStep, jumpStep, emptyStep, dropStep, jumpStep}
	if !slices.Equal(kinds, want) {
		t.Errorf("the kinds are %v, want %v", kinds, want)
	}
}
