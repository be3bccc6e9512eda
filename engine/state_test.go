package engine_test

import (
	"math/rand/v2"
	"slices"
	"strconv"
	"strings"
	"sync"
	"testing"

	"evictor/api"
	"evictor/engine"
)

// state answers what Keys and Value say of each name that is declared, as in "r 3 1; g; v=2".
func state(t *testing.T, e *engine.Engine) string {
	t.Helper()
	var all []string
	for _, line := range strings.Split(e.Text(), "\n") {
		words := strings.Fields(line)
		if len(words) != 3 || words[0] == "on" {
			continue
		}
		name := words[1]
		if words[0] == "var" {
			all = append(all, name+"="+strconv.Itoa(value(t, e, name)))
			continue
		}
		said := name
		for _, key := range keys(t, e, name) {
			said += " " + strconv.FormatUint(key, 10)
		}
		all = append(all, said)
	}
	return strings.Join(all, "; ")
}

func keys(t *testing.T, e *engine.Engine, name string) []uint64 {
	t.Helper()
	list, no := e.Keys(name)
	if no != api.OK {
		t.Errorf("%q: Keys(%q): error %d", e.Text(), name, no)
	}
	return list
}

func value(t *testing.T, e *engine.Engine, name string) int {
	t.Helper()
	n, no := e.Value(name)
	if no != api.OK {
		t.Errorf("%q: Value(%q): error %d", e.Text(), name, no)
	}
	return n
}

// stateCase has a script, and the state and the counts behind it.
type stateCase struct {
	src, calls string
	want       string
	counts     api.Counts
}

func runStateCases(t *testing.T, cases []stateCase) {
	t.Helper()
	for _, c := range cases {
		e := load(t, c.src)
		if got := play(t, e, c.calls); got != c.calls {
			t.Errorf("%q:\n got %s\nwant %s", c.src, got, c.calls)
		}
		if got := state(t, e); got != c.want {
			t.Errorf("%q behind %s:\n got %s\nwant %s", c.src, c.calls, got, c.want)
		}
		if got := e.Counts(); got != c.counts {
			t.Errorf("%q behind %s: counts %v, want %v", c.src, c.calls, got, c.counts)
		}
	}
}

const (
	lru   = "queue r 2; on r { put r; } on miss { if full r { evict r; } put r; }"
	clock = "queue r 3; freq 1; on r { bump; } on miss { if full r { repeat 50 while warm r { cool r; shift r r; } evict r; } put r; }"
)

func TestP5Examples(t *testing.T) {
	const inOut = "queue in 1; ghost out 2; on miss { if full in { shift in out; } put in; }"
	const aside = "queue a 1; ghost g 1; on a { put g; } on miss { put a; }"
	runStateCases(t, []stateCase{
		{lru, "1 2 1+ 3/2", "r 3 1", api.Counts{Hits: 1, Misses: 3, Evicted: 1}},
		{clock, "1 2 3 1+ 4/2", "r 4 1 3", api.Counts{Hits: 1, Misses: 4, Evicted: 1}},
		{inOut, "1 2/1", "in 2; out 1", api.Counts{Misses: 2, Evicted: 1}},
		{inOut, "1 2/1 1", "in 2; out 1", api.Counts{Misses: 3, Evicted: 1}},
		{"queue r 1; on miss { put r; }", "1 2=full", "r 1", api.Counts{Misses: 1}},
		{"queue r 1; on miss { evict r; }", "1=empty", "r", api.Counts{}},
		{aside, "5", "a 5; g", api.Counts{Misses: 1}},
		{aside, "5 5+/5", "a; g 5", api.Counts{Hits: 1, Misses: 1, Evicted: 1}},
		{aside, "5 5+/5 5", "a; g 5", api.Counts{Hits: 1, Misses: 2, Evicted: 1}},
		{"queue r 1; on miss { put r; drop; }", "7/7", "r", api.Counts{Misses: 1, Evicted: 1}},
	})
}

func TestP5AtTheBeginning(t *testing.T) {
	runStateCases(t, []stateCase{
		{lru, "", "r", api.Counts{}},
		{"on miss { }", "", "", api.Counts{}},
		{whole, "", "small; out; v=0", api.Counts{}},
		{manyNames(api.MaxNames) + "on miss { }", "", "qa; qb; qc; qd; qe; qf; qg; qh", api.Counts{}},
	})
}

func TestP5KeysBehindPut(t *testing.T) {
	runStateCases(t, []stateCase{
		// A new key, at the head or at the tail; at a ghost's too.
		{"queue r 3; on miss { put r; }", "1 2 3", "r 3 2 1", api.Counts{Misses: 3}},
		{"queue r 3; on miss { put r tail; }", "1 2 3", "r 1 2 3", api.Counts{Misses: 3}},
		{"ghost g 3; on miss { put g; }", "1 2 3", "g 3 2 1", api.Counts{Misses: 3}},
		{"ghost g 3; on miss { put g tail; }", "1 2 3", "g 1 2 3", api.Counts{Misses: 3}},
		// One of the queue itself, from its head, its middle and its tail.
		{"queue r 3; on r { put r; } on miss { put r; }", "1 2 3 3+", "r 3 2 1", api.Counts{Hits: 1, Misses: 3}},
		{"queue r 3; on r { put r; } on miss { put r; }", "1 2 3 2+", "r 2 3 1", api.Counts{Hits: 1, Misses: 3}},
		{"queue r 3; on r { put r; } on miss { put r; }", "1 2 3 1+", "r 1 3 2", api.Counts{Hits: 1, Misses: 3}},
		{"queue r 3; on r { put r tail; } on miss { put r; }", "1 2 3 3+", "r 2 1 3", api.Counts{Hits: 1, Misses: 3}},
		{"queue r 3; on r { put r tail; } on miss { put r; }", "1 2 3 2+", "r 3 1 2", api.Counts{Hits: 1, Misses: 3}},
		{"queue r 3; on r { put r tail; } on miss { put r; }", "1 2 3 1+", "r 3 2 1", api.Counts{Hits: 1, Misses: 3}},
		// One of another queue.
		{"queue a 3; queue b 3; on a { put b; } on miss { put a; }", "1 2 3 2+ 1+", "a 3; b 1 2", api.Counts{Hits: 2, Misses: 3}},
		{"queue a 3; queue b 3; on a { put b tail; } on miss { put a; }", "1 2 3 2+ 3+", "a 1; b 2 3", api.Counts{Hits: 2, Misses: 3}},
		{"queue a 3; ghost g 3; on a { put g; } on g { put a tail; } on miss { put a; }", "1 2 3 2+/2 3+/3 2", "a 1 2; g 3", api.Counts{Hits: 2, Misses: 4, Evicted: 2}},
	})
}

func TestP5KeysBehindShift(t *testing.T) {
	const fill = "on miss { put a tail; }"
	runStateCases(t, []stateCase{
		{"queue a 3; queue b 3; on a { shift a b; } " + fill, "1 2 3 1+ 1+", "a 1; b 2 3", api.Counts{Hits: 2, Misses: 3}},
		{"queue a 3; queue b 3; on a { shift a b tail; } " + fill, "1 2 3 1+ 1+", "a 1; b 3 2", api.Counts{Hits: 2, Misses: 3}},
		{"queue a 3; ghost g 3; on a { shift a g; } " + fill, "1 2 3 1+/3 1+/2 1+/1", "a; g 1 2 3", api.Counts{Hits: 3, Misses: 3, Evicted: 3}},
		{"queue a 3; ghost g 3; on a { shift a g tail; } " + fill, "1 2 3 1+/3 1+/2", "a 1; g 3 2", api.Counts{Hits: 2, Misses: 3, Evicted: 2}},
		{"queue a 3; on a { shift a a; } " + fill, "1 2 3 1+", "a 3 1 2", api.Counts{Hits: 1, Misses: 3}},
		{"queue a 3; on a { shift a a tail; } " + fill, "1 2 3 1+", "a 1 2 3", api.Counts{Hits: 1, Misses: 3}},
		{"ghost a 3; queue b 3; on a { shift a b; } " + fill, "1 2 3 1 1", "a 1; b 2 3", api.Counts{Misses: 5}},
		{"ghost a 3; ghost g 3; on a { shift a g; } " + fill, "1 2 3 1", "a 1 2; g 3", api.Counts{Misses: 4}},
	})
}

func TestP5KeysBehindWhatTakesThemOut(t *testing.T) {
	runStateCases(t, []stateCase{
		{"queue r 3; on r { evict r; } on miss { put r; }", "1 2 3 3+/1", "r 3 2", api.Counts{Hits: 1, Misses: 3, Evicted: 1}},
		{"queue r 3; on r { evict r; } on miss { put r; }", "1 2 3 3+/1 3+/2 3+/3", "r", api.Counts{Hits: 3, Misses: 3, Evicted: 3}},
		{"ghost g 3; on g { evict g; } on miss { put g; }", "1 2 3 3", "g 3 2", api.Counts{Misses: 4}},
		{"queue r 3; on r { drop; } on miss { put r; }", "1 2 3 1+/1", "r 3 2", api.Counts{Hits: 1, Misses: 3, Evicted: 1}},
		{"queue r 3; on r { drop; } on miss { put r; }", "1 2 3 2+/2", "r 3 1", api.Counts{Hits: 1, Misses: 3, Evicted: 1}},
		{"queue r 3; on r { drop; } on miss { put r; }", "1 2 3 3+/3", "r 2 1", api.Counts{Hits: 1, Misses: 3, Evicted: 1}},
		{"ghost g 3; on g { drop; } on miss { put g; }", "1 2 3 2", "g 3 1", api.Counts{Misses: 4}},
		// Remove, at the head, in the middle, at the tail, and of what is not there.
		{"queue r 3; on miss { put r; }", "1 2 3 3=gone", "r 2 1", api.Counts{Misses: 3}},
		{"queue r 3; on miss { put r; }", "1 2 3 2=gone 2=none", "r 3 1", api.Counts{Misses: 3}},
		{"queue r 3; on miss { put r; }", "1 2 3 1=gone 4=none", "r 3 2", api.Counts{Misses: 3}},
		{"queue r 3; on miss { put r; }", "1 1=gone", "r", api.Counts{Misses: 1}},
		{"ghost g 3; on miss { put g; }", "1 2 3 2=gone", "g 3 1", api.Counts{Misses: 3}},
		// What comes behind them takes its place.
		{"queue r 3; on miss { put r; }", "1 2 3 2=gone 4 1=gone 5", "r 5 4 3", api.Counts{Misses: 5}},
		{"queue r 3; on r { drop; } on miss { put r tail; }", "1 2 3 2+/2 4 1+/1 5", "r 3 4 5", api.Counts{Hits: 2, Misses: 5, Evicted: 2}},
	})
}

func TestP5KeysAreAnyNumbers(t *testing.T) {
	const top = "18446744073709551615"
	runStateCases(t, []stateCase{
		{"queue r 4; on miss { put r; }", "0 " + top + " 9223372036854775808 4294967296", "r 4294967296 9223372036854775808 " + top + " 0", api.Counts{Misses: 4}},
		{"queue r 2; on miss { put r; }", "9007199254740992 9007199254740993", "r 9007199254740993 9007199254740992", api.Counts{Misses: 2}},
	})
}

// A queue's keys are told at its greatest capacity too.
func TestP5KeysOfAFullQueue(t *testing.T) {
	e := load(t, "queue r 50; ghost g 50; on miss { if full r { if full g { evict g; } shift r g; } put r; }")
	var want []uint64
	for key := range uint64(130) {
		e.Access(key)
		want = slices.Insert(want, 0, key)
	}
	if got := keys(t, e, "r"); !slices.Equal(got, want[:api.MaxCap]) {
		t.Errorf("r is %v, want %v", got, want[:api.MaxCap])
	}
	if got := keys(t, e, "g"); !slices.Equal(got, want[api.MaxCap:2*api.MaxCap]) {
		t.Errorf("g is %v, want %v", got, want[api.MaxCap:2*api.MaxCap])
	}
}

func TestP5Values(t *testing.T) {
	runStateCases(t, []stateCase{
		{"var v 3; on miss { inc v; }", "1", "v=1", api.Counts{Misses: 1}},
		{"var v 3; on miss { inc v; }", "1 2 1", "v=3", api.Counts{Misses: 3}},
		{"var v 3; on miss { inc v; }", "1 2 1 3 4", "v=3", api.Counts{Misses: 5}},
		{"var v 3; on miss { dec v; }", "1 2", "v=0", api.Counts{Misses: 2}},
		{"var v 3; on miss { inc v; inc v; dec v; }", "1", "v=1", api.Counts{Misses: 1}},
		{"var v 3; on miss { inc v; inc v; dec v; }", "1 1 1 1", "v=2", api.Counts{Misses: 4}},
		{"var v 1; on miss { inc v; inc v; dec v; dec v; inc v; }", "1", "v=1", api.Counts{Misses: 1}},
		{"var v 99; on miss { repeat 50 while 1 < 2 { inc v; } }", "1", "v=50", api.Counts{Misses: 1}},
		{"var v 99; on miss { repeat 50 while 1 < 2 { inc v; } }", "1 2 3", "v=99", api.Counts{Misses: 3}},
		{"var v 99; queue r 1; on r { repeat 49 while 1 < 2 { dec v; dec v; } } on miss { put r; repeat 50 while 1 < 2 { inc v; inc v; } }", "1 1+", "v=1; r 1", api.Counts{Hits: 1, Misses: 1}},
		{"var v 99; queue r 1; on r { repeat 50 while 1 < 2 { dec v; dec v; } } on miss { put r; repeat 50 while 1 < 2 { inc v; inc v; } }", "1 1+", "v=0; r 1", api.Counts{Hits: 1, Misses: 1}},
		// Each has its own, whatever is declared between.
		{"var v 9; queue a 9; var w 9; ghost b 9; var u 9; on miss { inc v; inc w; inc w; inc u; inc u; inc u; }", "1", "v=1; a; w=2; b; u=3", api.Counts{Misses: 1}},
		{"queue a 9; var v 9; ghost b 9; var w 2; on a { dec v; put b; } on b { inc w; } on miss { inc v; inc v; put a; }", "1 2 1+/1 1 1 1", "a 2; v=3; b 1; w=2", api.Counts{Hits: 1, Misses: 5, Evicted: 1}},
		// Neither Remove nor a rule with an error changes one.
		{"queue r 1; var v 9; on miss { inc v; put r; }", "1 2=full 3=full 1=gone", "r; v=1", api.Counts{Misses: 1}},
		{"queue r 2; var v 9; on r { dec v; evict r; evict r; } on miss { inc v; inc v; put r; }", "1 1=empty 2 1+/1,2", "r; v=3", api.Counts{Hits: 1, Misses: 2, Evicted: 2}},
	})
}

// badNames are neither queues' nor variables' in the policy of TestP5NoNames, some of them in none.
var badNames = []string{
	"", " ", "x", "zz", "r ", " r", "rr", "R", "V", "r\x00", "r;", "r 2", "v ", "vv", "g\n", "é", "\xff", "0", "2", "-1",
	"queue", "ghost", "var", "freq", "on", "miss", "put", "tail", "evict", "shift", "drop", "inc", "dec", "bump", "cool",
	"if", "else", "repeat", "while", "not", "full", "empty", "warm", "len", ";", "{", "<",
	"longname", "longnam", "longnamex", "longestone",
}

func TestP5NoNames(t *testing.T) {
	e := load(t, "queue r 2; ghost g 2; var v 9; queue longnamq 1; var longnamv 3; freq 9; on miss { inc v; put r; bump; }")
	play(t, e, "1 2")
	const want = "r 2 1; g; v=2; longnamq; longnamv=0"
	counts := e.Counts()
	for _, name := range append([]string{"v", "longnamv", strings.Repeat("r", 100000)}, badNames...) {
		if list, no := e.Keys(name); list != nil || no != api.ErrName {
			t.Errorf("Keys(%.20q) = %v, %d", name, list, no)
		}
	}
	for _, name := range append([]string{"r", "g", "longnamq", strings.Repeat("v", 100000)}, badNames...) {
		if n, no := e.Value(name); n != 0 || no != api.ErrName {
			t.Errorf("Value(%.20q) = %d, %d", name, n, no)
		}
	}
	if got := state(t, e); got != want || e.Counts() != counts {
		t.Errorf("behind wrong names: %s, want %s", got, want)
	}
}

// Names are those of the engine's own policy.
func TestP5NamesOfOneEngine(t *testing.T) {
	a := load(t, "queue r 1; var v 1; on miss { }")
	b := load(t, "queue v 1; var r 1; on miss { }")
	c := load(t, "on miss { }")
	for _, x := range []struct {
		e           *engine.Engine
		name        string
		keys, value api.Errno
	}{
		{a, "r", api.OK, api.ErrName}, {a, "v", api.ErrName, api.OK},
		{b, "r", api.ErrName, api.OK}, {b, "v", api.OK, api.ErrName},
		{c, "r", api.ErrName, api.ErrName}, {c, "v", api.ErrName, api.ErrName},
	} {
		list, no := x.e.Keys(x.name)
		n, other := x.e.Value(x.name)
		if len(list) != 0 || n != 0 || no != x.keys || other != x.value {
			t.Errorf("%q: Keys(%q) = %v, %d; Value = %d, %d", x.e.Text(), x.name, list, no, n, other)
		}
	}
}

func TestP5Counts(t *testing.T) {
	const tell = "{ put r; drop; } "
	runStateCases(t, []stateCase{
		// A key without a rule for its queue is found all the same; one in a ghost is not.
		{"queue r 1; on miss { put r; }", "1 1+ 1+", "r 1", api.Counts{Hits: 2, Misses: 1}},
		{"ghost g 1; on miss { put g; }", "1 1 1", "g 1", api.Counts{Misses: 3}},
		{"on miss { }", "1 1 2", "", api.Counts{Misses: 3}},
		// One Access may tell several, and one key several times.
		{"queue r 3; on miss { if full r { evict r; evict r; } put r; }", "1 2 3 4/1,2", "r 4 3", api.Counts{Misses: 4, Evicted: 2}},
		{"queue r 3; on r { repeat 50 while not empty r { evict r; } } on miss { put r; }", "1 2 3 2+/1,2,3", "r", api.Counts{Hits: 1, Misses: 3, Evicted: 3}},
		{"queue r 1; on miss { repeat 50 while 1 < 2 " + tell + "}", times(50) + " " + times(50), "r", api.Counts{Misses: 2, Evicted: 100}},
		{"queue r 1; on miss { repeat 50 while 1 < 2 { repeat 50 while 1 < 2 " + tell + "} }", times(2500), "r", api.Counts{Misses: 1, Evicted: 2500}},
		// What leaves a ghost, or goes from a queue to another, is not evicted.
		{"ghost g 2; on miss { if full g { evict g; } put g; }", "1 2 3 4", "g 4 3", api.Counts{Misses: 4}},
		{"queue a 1; queue b 9; on miss { if full a { shift a b; } put a; }", "1 2 3 1+", "a 3; b 2 1", api.Counts{Hits: 1, Misses: 3}},
		// An Access with an error counts for nothing, whatever it came to ahead of it.
		{"queue r 2; on r { evict r; evict r; evict r; } on miss { put r; }", "1 2 1=empty 2=empty 3=full", "r 2 1", api.Counts{Misses: 2}},
		{"queue r 2; ghost g 1; on r { shift r g; shift r g; } on miss { put r; }", "1 2 1=full 2=full 2=gone", "r 1; g", api.Counts{Misses: 2}},
		// Nor does Remove, and behind it the key is not found.
		{lru, "1 2 1=gone 1=none 3", "r 3 2", api.Counts{Misses: 3}},
		{lru, "1 1+ 1=gone 1 1+", "r 1", api.Counts{Hits: 2, Misses: 2}},
		{"queue in 1; ghost out 2; on miss { if full in { shift in out; } put in; }", "1 2/1 1=gone 2=gone 1 2/1", "in 2; out 1", api.Counts{Misses: 4, Evicted: 2}},
	})
}

// The counts are those of what Access answered, whatever else was asked for between.
func TestP5CountsOfMadeUpCalls(t *testing.T) {
	for i, src := range []string{
		"queue r 3; var v 3; freq 2; on r { bump; inc v; put r; if 1 < freq { cool r; evict r; evict r; } } on miss { if full r { inc v; cool r; shift r r; if v < 3 { evict r; } } put r; dec v; }",
		"queue a 2; queue b 2; ghost g 3; freq 3; on a { bump; put b; } on b { bump; cool b; shift b a; } on g { put a; shift a g; } on miss { put a; if full a { shift a g; } }",
		"queue a 2; ghost g 2; var v 5; on a { inc v; shift a g; } on g { dec v; put a; if v < 1 { evict g; } } on miss { if full a { evict a; evict a; } inc v; put a; if 3 < v { shift a g; dec v; dec v; } }",
	} {
		r := rand.New(rand.NewPCG(uint64(i), 8))
		e := load(t, src)
		var want api.Counts
		failed := 0
		for range 3000 {
			key := r.Uint64N(6)
			if r.IntN(9) == 0 {
				e.Remove(key)
				e.Keys("x")
			} else if x := access(e, key); x.no != api.OK {
				failed++
			} else if want.Evicted += len(x.evicted); x.found {
				want.Hits++
			} else {
				want.Misses++
			}
			if got := e.Counts(); got != want {
				t.Fatalf("%q: counts %v, want %v", src, got, want)
			}
		}
		if min(want.Hits, want.Misses, want.Evicted, failed) < 100 {
			t.Errorf("%q: too few of one kind: %v, and %d failed", src, want, failed)
		}
	}
}

// To look at an engine changes nothing of it.
func TestP5LooksChangeNothing(t *testing.T) {
	const src = "queue a 2; ghost g 3; var v 9; freq 3; on a { bump; put a; } on g { inc v; if full a { shift a g; } put a; } on miss { if full a { if full g { evict g; } shift a g; } put a; }"
	r := rand.New(rand.NewPCG(1, 9))
	seen, alone := load(t, src), load(t, src)
	for range 1000 {
		before := state(t, seen)
		if again := state(t, seen); again != before {
			t.Fatalf("%s, and then %s", before, again)
		}
		key := r.Uint64N(8)
		if x, y := access(seen, key), access(alone, key); x.words() != y.words() {
			t.Fatalf("Access(%d): %q, and %q where nobody looks", key, x.words(), y.words())
		}
	}
	if x, y := state(t, seen), state(t, alone); x != y || seen.Counts() != alone.Counts() {
		t.Errorf("%s, and %s where nobody looks", x, y)
	}
}

// scribble writes into a list and into the room behind its end.
func scribble(list []uint64, with uint64) {
	room := list[:cap(list)]
	for i := range room {
		room[i] = with
	}
}

func TestP1ListsOfKeysAreNew(t *testing.T) {
	const src = "queue a 3; ghost g 3; on a { put a; } on g { drop; } on miss { if full a { if full g { evict g; } shift a g; } put a tail; }"
	e, other := load(t, src), load(t, src)
	var lists [][]uint64
	for i := range uint64(300) {
		key := i * i % 11
		e.Access(key)
		other.Access(key)
		if got, want := state(t, e), state(t, other); got != want {
			t.Fatalf("behind Access %d: %s, want %s", i, got, want)
		}
		for _, name := range []string{"a", "g", "a"} {
			list := keys(t, e, name)
			scribble(list, 1000+uint64(len(lists)))
			lists = append(lists, list)
		}
		e.Remove(key * 3 % 11)
		other.Remove(key * 3 % 11)
	}
	for n, list := range lists {
		for _, key := range list[:cap(list)] {
			if key != 1000+uint64(n) {
				t.Fatalf("somebody else wrote %d into list %d", key, n)
			}
		}
	}
}

// Of the lists of one Access and of Keys, none is another.
func TestP1ListsOfAccessAndKeys(t *testing.T) {
	e := load(t, "queue r 2; ghost g 2; on miss { repeat 9 while not empty g { evict g; } if full r { shift r g; shift r g; } put r; }")
	play(t, e, "1 2")
	_, evicted, _ := e.Access(3)
	ghosts := keys(t, e, "g")
	if !slices.Equal(evicted, []uint64{1, 2}) || !slices.Equal(ghosts, []uint64{2, 1}) {
		t.Fatalf("evicted %v, ghosts %v", evicted, ghosts)
	}
	scribble(evicted, 77)
	if !slices.Equal(ghosts, []uint64{2, 1}) {
		t.Errorf("the ghosts became %v", ghosts)
	}
	scribble(ghosts, 78)
	if got := state(t, e); got != "r 3; g 2 1" || evicted[0] != 77 {
		t.Errorf("the state became %s, the list %v", got, evicted)
	}
}

func TestP1LooksAtNothing(t *testing.T) {
	var none *engine.Engine
	for _, e := range []*engine.Engine{none, new(engine.Engine)} {
		e.Access(7)
		if list, no := e.Keys("r"); list != nil || no != api.ErrName {
			t.Errorf("Keys of an engine that is none: %v, %d", list, no)
		}
		if n, no := e.Value("v"); n != 0 || no != api.ErrName {
			t.Errorf("Value of an engine that is none: %d, %d", n, no)
		}
		if got := e.Counts(); got != (api.Counts{}) {
			t.Errorf("Counts of an engine that is none: %v", got)
		}
	}
}

func TestP1StatesStandAlone(t *testing.T) {
	const src = "queue r 2; var v 9; on r { put r; } on miss { inc v; if full r { evict r; } put r; }"
	a, b := load(t, src), load(t, src)
	play(t, a, "1 2 1 3")
	play(t, b, "9")
	if got := state(t, a); got != "r 3 1; v=3" || a.Counts() != (api.Counts{Hits: 1, Misses: 3, Evicted: 1}) {
		t.Errorf("the first became %s, %v", got, a.Counts())
	}
	if got := state(t, b); got != "r 9; v=1" || b.Counts() != (api.Counts{Misses: 1}) {
		t.Errorf("the second became %s, %v", got, b.Counts())
	}
	var group sync.WaitGroup
	for key := range uint64(8) {
		group.Go(func() {
			e, _, _ := engine.Load(src)
			for range 200 {
				e.Access(key)
			}
			list, _ := e.Keys("r")
			if !slices.Equal(list, []uint64{key}) || e.Counts() != (api.Counts{Hits: 199, Misses: 1}) {
				t.Errorf("of %d: %v, %v", key, list, e.Counts())
			}
		})
	}
	group.Wait()
}
