package engine_test

import (
	"math"
	"math/rand/v2"
	"slices"
	"strconv"
	"strings"
	"sync"
	"testing"

	"evictor/api"
	"evictor/engine"
)

// answer is what a call for a key answered, in a script's words:
//
//	7        an Access that found nothing
//	7+       one that found the key
//	7/1,2    one that evicted 1 and 2
//	7=full   one with that error, or =empty
//	7=gone   a Remove that found the key, or =none
type answer struct {
	found   bool
	evicted []uint64
	no      api.Errno
}

func load(t *testing.T, src string) *engine.Engine {
	t.Helper()
	e, no, at := engine.Load(src)
	if no != api.OK {
		t.Fatalf("Load(%q): error %d at %d", src, no, at)
	}
	return e
}

func access(e *engine.Engine, key uint64) answer {
	found, evicted, no := e.Access(key)
	return answer{found, evicted, no}
}

func (a answer) words() string {
	switch {
	case a.no == api.ErrFull && !a.found && a.evicted == nil:
		return "=full"
	case a.no == api.ErrEmpty && !a.found && a.evicted == nil:
		return "=empty"
	case a.no != api.OK:
		return "=error " + strconv.Itoa(int(a.no))
	}
	var b strings.Builder
	if a.found {
		b.WriteString("+")
	}
	for i, key := range a.evicted {
		b.WriteString([]string{"/", ","}[min(i, 1)] + strconv.FormatUint(key, 10))
	}
	return b.String()
}

func keyOf(t *testing.T, call string) uint64 {
	t.Helper()
	digits := call
	if i := strings.IndexAny(call, "+/="); i >= 0 {
		digits = call[:i]
	}
	key, err := strconv.ParseUint(digits, 10, 64)
	if err != nil {
		t.Fatal(err)
	}
	return key
}

// play does what a script says and answers what came of it, as a script.
func play(t *testing.T, e *engine.Engine, script string) string {
	t.Helper()
	var got []string
	for _, call := range strings.Fields(script) {
		key := keyOf(t, call)
		said := ""
		switch {
		case strings.HasSuffix(call, "=gone"), strings.HasSuffix(call, "=none"):
			said = "=none"
			if e.Remove(key) {
				said = "=gone"
			}
		default:
			said = access(e, key).words()
		}
		got = append(got, strconv.FormatUint(key, 10)+said)
	}
	return strings.Join(got, " ")
}

type script struct {
	src, calls string
}

func runScripts(t *testing.T, scripts []script) {
	t.Helper()
	for _, s := range scripts {
		if got := play(t, load(t, s.src), s.calls); got != s.calls {
			t.Errorf("%q:\n got %s\nwant %s", s.src, got, s.calls)
		}
	}
}

// runRules runs scripts for policies whose declarations are given once.
func runRules(t *testing.T, head string, scripts []script) {
	t.Helper()
	for _, s := range scripts {
		runScripts(t, []script{{head + s.src, s.calls}})
	}
}

func TestP4Examples(t *testing.T) {
	runScripts(t, []script{
		{"queue r 2; on r { put r; } on miss { if full r { evict r; } put r; }", "1 2 1+ 3/2 2/1 3+"},
		{"queue r 3; freq 1; on r { bump; } on miss { if full r { repeat 50 while warm r { cool r; shift r r; } evict r; } put r; }", "1 2 3 1+ 4/2 5/3 6/1 7/4"},
		{"queue in 1; ghost out 2; on miss { if full in { shift in out; } put in; }", "1 2/1 1 2+ 1"},
		{"queue r 1; on miss { put r; }", "1 2=full 1+ 2=full"},
		{"queue r 1; on miss { evict r; }", "1=empty 1=empty"},
		{"queue a 1; ghost g 1; on a { put g; } on miss { put a; }", "5 5+/5 5 5 6 6=full"},
		{"queue r 1; on miss { put r; drop; }", "7/7 7/7 8/8"},
	})
}

func TestP4KnownPolicies(t *testing.T) {
	runScripts(t, []script{
		// FIFO: a hit changes nothing.
		{"queue r 3; on miss { if full r { evict r; } put r; }", "1 2 3 1+ 4/1 2+ 1/2 3+ 2/3 3/4"},
		// LRU of three.
		{"queue r 3; on r { put r; } on miss { if full r { evict r; } put r; }", "1 2 3 1+ 4/2 3+ 5/1 4+ 3+ 6/5"},
		// The newest goes: all come to the tail.
		{"queue r 2; on miss { if full r { evict r; } put r tail; }", "1 2 3/2 1+ 2/3 3/2"},
		// The least often used of two, of those at the tail.
		{"queue r 2; freq 9; on r { bump; } on miss { if full r { repeat 9 while warm r { cool r; shift r r; } evict r; } put r; }", "1 1+ 1+ 1+ 2 2+ 3/2 1+ 4/3 1+ 5/4"},
		// 2Q: what comes again out of the ghost is kept in the main queue.
		{"queue in 2; ghost out 2; queue main 2; on main { put main; } on out { if full main { evict main; } put main; } on miss { if full in { if full out { evict out; } shift in out; } put in; }", "1 2 3/1 1 1+ 4/2 5/3 6/4 2/5 1+ 4 5/1 5+ 4+ 6+"},
		// Two segments: a second hit brings a key to the kept one, whose tail falls back.
		{"queue a 2; queue b 1; queue t 1; on a { put t; if full b { shift b a; } put b; } on miss { if full a { evict a; } put a; }", "1 2 1+ 3 2+ 4/3 5/1 2+ 4+ 6/5 4+ 5/2 7/6"},
		// S3-FIFO of one and two.
		{"queue s 1; queue m 2; ghost g 2; freq 3; on s { bump; } on m { bump; } on g { repeat 50 while full m { if warm m { cool m; shift m m; } else { evict m; } } put m; } on miss { if full s { if warm s { repeat 50 while full m { if warm m { cool m; shift m m; } else { evict m; } } shift s m; } else { if full g { evict g; } shift s g; } } put s; }", "1 1+ 2 3/2 2 4/3 1+ 5/4 4/2 1+ 4+ 6/5 3/4 7/6"},
	})
}

func TestP4PutLeavesFirst(t *testing.T) {
	runScripts(t, []script{
		{"queue r 1; on r { put r; put r tail; } on miss { put r; }", "1 1+ 2=full 1+"},
		{"queue r 2; on r { put r; } on miss { if full r { evict r; } put r; }", "1 2 1+ 2+ 1+ 3/2"},
		{"queue r 2; on r { put r tail; } on miss { if full r { evict r; } put r; }", "1 2 2+ 3/2 1+"},
		{"queue r 1; on miss { put r; put r; put r tail; }", "1 2=full"},
		{"ghost g 1; on g { put g; } on miss { put g; }", "1 1 2=full 1"},
		{"queue a 1; queue b 1; on a { put b; } on b { put a; } on miss { put a; }", "1 1+ 1+ 1+ 2 2=full 1=full"},
		{"queue r 2; on r { shift r r; } on miss { if full r { evict r; } put r; }", "1 2 2+ 3/2 1+"},
		{"queue r 1; on r { shift r r; shift r r tail; } on miss { put r; }", "1 1+ 1+"},
	})
}

func TestP4HeadAndTail(t *testing.T) {
	const out = " on r { evict r; evict r; evict r; } "
	runRules(t, "queue r 3; queue p 3; ghost g 3;", []script{
		{out + "on miss { put r; }", "1 2 3 4=full 2+/1,2,3"},
		{out + "on miss { put r tail; }", "1 2 3 4=full 2+/3,2,1"},
		{out + "on miss { if full r { shift r r; } put r; }", "1 2 3 2+/1,2,3"},
		{out + "on miss { put r; if full r { shift r r; } }", "1 2 3 2+/2,3,1"},
		{out + "on miss { put r; if full r { shift r r tail; } }", "1 2 3 2+/1,2,3"},
		{out + "on miss { put r; if full r { shift r p; shift r p; shift p r; shift p r; } }", "1 2 3 2+/3,1,2"},
		{out + "on miss { put r; if full r { shift r p; shift r p; shift p r tail; shift p r tail; } }", "1 2 3 2+/2,1,3"},
		{out + "on miss { put r; if full r { shift r p; shift r p tail; shift p r; shift p r; } }", "1 2 3 2+/3,2,1"},
		{out + "on miss { put r; if full r { put r tail; } }", "1 2 3 2+/3,1,2"},
	})
}

func TestP4NoRule(t *testing.T) {
	runScripts(t, []script{
		{"queue r 1; on miss { put r; }", "1 1+ 1+"},
		{"ghost g 1; on miss { put g; }", "1 1 1 2=full"},
		{"queue a 1; queue b 1; on a { drop; } on miss { put b; }", "1 1+ 1+"},
		{"queue a 1; queue b 1; on b { drop; } on miss { put b; }", "1 1+/1 1 1+/1"},
		{"queue r 1; on r { } on miss { put r; }", "1 1+ 1+"},
		{"on miss { }", "1 1 18446744073709551615"},
		{"on miss { drop; bump; }", "1 1"},
	})
}

func TestP4Errors(t *testing.T) {
	runRules(t, "queue a 1; queue b 1; ghost g 1; ", []script{
		{"on miss { put a; put b; put a; put g; put g; }", "1/1 2=full"},
		{"on a { put b; } on miss { if empty b { put b; } else { put a; } }", "1 2 2=full 1+ 2=full"},
		{"on miss { put g; }", "1 2=full 1"},
		{"on miss { evict g; }", "1=empty"},
		{"on miss { cool a; }", "1=empty"},
		{"on miss { cool g; }", "1=empty"},
		{"on miss { shift a b; }", "1=empty"},
		{"on miss { shift a a; }", "1=empty"},
		{"on miss { put a; shift b a; }", "1=empty"},
		{"on miss { put a; shift a b; }", "1 2=full 2=full"},
		{"on a { shift b a; } on miss { if empty a { put a; } else { put b; } }", "1 2 1=full"},
		{"on miss { put a; evict a; evict a; }", "1=empty"},
		{"on miss { if 1 < 2 { evict a; } put a; }", "1=empty"},
		{"on miss { if 2 < 1 { evict a; } put a; }", "1 2=full"},
		{"on miss { repeat 3 while 1 < 2 { put a; shift a b; } }", "1 1+ 2=full"},
	})
}

// Where two things are wrong with a shift, the entry that is not there is told.
func TestP4EmptyAheadOfFull(t *testing.T) {
	runScripts(t, []script{
		{"queue a 1; queue b 1; on b { shift a b; } on miss { put b; }", "1 1=empty 1=empty"},
	})
}

// Behind an error, the rule shows nothing of what it did ahead of it.
func TestP4NothingHasChanged(t *testing.T) {
	runScripts(t, []script{
		// Queues: what was evicted is back, in its order, and what was put is gone.
		{"queue r 3; on r { evict r; evict r; evict r; } on miss { if full r { evict r; shift r r; evict r; put r; put r tail; cool r; drop; evict r; evict r; } put r; }", "1 2 3 4=empty 4=empty 5=empty 2+/1,2,3 4"},
		// Variables.
		{"queue r 1; queue p 9; var v 9; on r { if v < 1 { drop; } if 1 < v { drop; } } on miss { if full r { inc v; inc v; evict p; } inc v; put r; }", "1 1+ 2=empty 1+ 2=empty 3=empty 1+"},
		{"queue r 1; queue p 9; var v 9; on r { if v < 2 { drop; } } on miss { if full r { dec v; evict p; } inc v; inc v; put r; }", "1 2=empty 3=empty 2=empty 1+ 1+"},
		// Frequencies.
		{"queue r 1; queue p 9; freq 9; on r { if freq < 1 { bump; } else { if 1 < freq { drop; } bump; bump; evict p; } } on miss { put r; }", "1 1+ 1=empty 1=empty 1=empty"},
		{"queue r 1; queue p 9; freq 9; on r { if freq < 1 { bump; } else { drop; } } on miss { if full r { cool r; cool r; put p; evict p; evict p; } put r; }", "1 1+ 2=empty 2=empty 1+/1 2"},
		// A key that had left is found again, and may be removed.
		{"queue a 2; queue b 1; on a { put b; put a; drop; evict a; put a; put b; evict b; evict b; } on miss { put a; }", "1 2 1=empty 2=empty 3=full 1=gone 2=gone 2=none"},
		{"queue a 1; ghost g 1; on miss { if full a { shift a g; put a; evict g; evict g; } put a; }", "1 2=empty 1+ 2=none 1=gone 2 2+"},
	})
}

func TestP4Evicted(t *testing.T) {
	const put = " on miss { put a; } "
	runRules(t, "queue a 2; queue b 2; ghost g 2; ghost h 2;", []script{
		// put
		{"on a { put b; }" + put, "1 1+ 1+"},
		{"on a { put a; }" + put, "1 1+"},
		{"on a { put g; }" + put, "1 1+/1 1"},
		{"on a { put g; put h; }" + put, "1 1+/1 1"},
		{"on a { put g; put a; }" + put, "1 1+/1 1+/1"},
		{"on a { put g; put b; put h; put a; }" + put, "1 1+/1,1 1+/1,1"},
		{"on g { put a; } on miss { put g; }", "1 1 1+"},
		{"on g { put h; } on miss { put g; }", "1 1 1"},
		// evict
		{"on a { evict a; }" + put, "1 2 2+/1 2+/2 2"},
		{"on a { evict g; } on miss { put g; evict g; put a; }", "1 1=empty"},
		{"on g { evict g; } on miss { put g; }", "1 2 2 2 1"},
		{"on a { evict b; }" + put, "1 1=empty"},
		// shift
		{"on a { shift a b; }" + put, "1 2 2+ 1+"},
		{"on a { shift a a; }" + put, "1 2 2+"},
		{"on a { shift a g; }" + put, "1 2 2+/1 2+/2 1"},
		{"on a { shift a g tail; shift a h; }" + put, "1 2 2+/1,2 2 1"},
		{"on g { shift g a; } on miss { put g; }", "1 2 2 1+ 2 2+"},
		{"on g { shift g h; } on miss { put g; }", "1 2 2 1 2"},
		{"on a { shift a g; shift g a; }" + put, "1 1+/1 1+/1"},
		// drop
		{"on a { drop; }" + put, "1 2 1+/1 1 2+/2"},
		{"on a { drop; drop; }" + put, "1 1+/1"},
		{"on g { drop; } on miss { put g; }", "1 1 1 1"},
		{"on miss { drop; }", "1"},
		{"on miss { put b; drop; put a; drop; }", "1/1,1"},
		{"on miss { put a; put g; drop; }", "1/1 1/1"},
		// and all of them, in order
		{"on a { evict a; put g; drop; put b; drop; }" + put, "1 2 2+/1,2,2 2"},
		{"on a { drop; evict a; }" + put, "1 2 2+/2,1 1"},
	})
}

// What was in the cache is asked ahead of the rule, not behind it.
func TestP4Found(t *testing.T) {
	runScripts(t, []script{
		{"queue r 1; ghost g 1; on r { drop; } on miss { put r; }", "1 1+/1 1"},
		{"queue r 1; ghost g 1; on g { put r; } on r { put g; } on miss { put g; }", "1 1 1+/1 1 1+/1"},
	})
}

func TestP4Variables(t *testing.T) {
	const tell = "{ put r; drop; }"
	runScripts(t, []script{
		{"queue r 1; var v 3; on miss { inc v; if 2 < v " + tell + " }", "1 1 1/1 1/1"},
		{"queue r 1; var v 3; on miss { repeat 50 while 1 < 2 { inc v; } if 3 < v " + tell + " if 2 < v " + tell + " dec v; if v < 3 " + tell + " }", "7/7,7 7/7,7"},
		{"queue r 1; var v 3; on miss { dec v; dec v; if v < 0 " + tell + " inc v; if not v < 1 " + tell + " }", "7/7 7/7"},
		{"queue r 1; var v 99; on miss { repeat 50 while 1 < 2 { inc v; inc v; } if 98 < v " + tell + " if 99 < v " + tell + " }", "7/7"},
		{"queue r 1; var v 1; var w 2; on miss { inc w; inc w; inc v; if v < w " + tell + " if w < v " + tell + " dec w; if v < w " + tell + " dec w; if w < v " + tell + " }", "7/7,7"},
		{"queue r 1; var v 1; on miss { if v < 1 " + tell + " }", "7/7 7/7"},
		// Their values stay from call to call.
		{"queue r 1; var v 9; on miss { if v < 2 { inc v; } else { dec v; dec v; put r; drop; } }", "1 2 3/3 4 5 6/6"},
	})
}

func TestP4Frequencies(t *testing.T) {
	const tell = "{ drop; put r; }"
	runScripts(t, []script{
		// Without freq it stays 0.
		{"queue r 1; on r { bump; if 0 < freq { drop; } if warm r { drop; } } on miss { put r; bump; }", "1 1+ 1+"},
		// bump at its bound.
		{"queue r 1; freq 2; on r { bump; if 1 < freq { drop; } } on miss { put r; }", "1 1+ 1+/1"},
		{"queue r 1; freq 2; on r { bump; bump; bump; if 2 < freq { drop; } cool r; if 1 < freq { drop; } cool r; if warm r { drop; } } on miss { put r; }", "1 1+ 1+"},
		{"queue r 1; freq 99; on r { repeat 50 while 1 < 2 { bump; bump; } if 98 < freq { put r; } if 99 < freq { drop; } cool r; if 98 < freq { drop; } } on miss { put r; }", "1 1+"},
		// cool at its bound: one bump is enough behind many.
		{"queue r 1; freq 9; on r { cool r; cool r; if freq < 0 { drop; } bump; if not warm r { drop; } } on miss { put r; cool r; }", "1 1+ 1+"},
		// bump of a key in no queue is nothing, and a new entry begins at 0.
		{"queue r 1; freq 9; on r { if 0 < freq { drop; } } on miss { bump; if 0 < freq { evict r; } put r; }", "1 1+"},
		{"queue r 1; freq 9; on r { bump; if 1 < freq " + tell + " }  on miss { put r; }", "1 1+ 1+/1 1+ 1+/1"},
		{"queue r 1; freq 9; on r { bump; if 1 < freq { evict r; } }  on miss { put r; }", "1 1+ 1+/1 1 1+ 1+/1"},
		// An entry takes it along.
		{"queue r 1; ghost g 1; freq 9; on r { bump; if freq < 3 { put r; } else { put g; } } on g { if 2 < freq { put r; } } on miss { put r; }", "1 1+ 1+ 1+/1 1 1+/1"},
		{"queue r 1; ghost g 1; freq 9; on r { bump; shift r g; } on g { if warm g { cool g; shift g r; } } on miss { put r; }", "1 1+/1 1 1+/1 1 1+/1"},
		// cool and warm are of the tail's entry, bump and freq of the key's.
		{"queue r 2; freq 9; on r { bump; if warm r { cool r; drop; } } on miss { put r; }", "1 2 2+ 1+/1"},
		{"queue r 2; freq 9; on r { bump; } on miss { if full r { cool r; if warm r { evict r; } } else { put r; } }", "1 2 1+ 2+ 3 1+ 1+ 3/1 2+ 1"},
		{"queue r 1; on miss { if warm r { put r; } }", "1 1"},
	})
}

// condCase has a condition that is so or is not so when the key 9 comes, which stands in r with a frequency of 2; v is 3.
type condCase struct {
	cond string
	so   bool
}

func TestP4Conditions(t *testing.T) {
	const head = "queue r 1; queue p 2; ghost g 2; ghost e 1; var v 9; var w 9; freq 9; "
	const miss = " on miss { if empty r { put r; bump; bump; inc v; inc v; inc v; } else { if empty g { put g; } else { put p; } } } "
	for _, c := range []condCase{
		{"full r", true}, {"full p", false}, {"full g", false}, {"full e", false},
		{"empty r", false}, {"empty p", false}, {"empty g", false}, {"empty e", true},
		{"warm r", true}, {"warm p", false}, {"warm g", false}, {"warm e", false},
		{"0 < 1", true}, {"1 < 1", false}, {"1 < 0", false}, {"0 < 0", false}, {"998 < 999", true}, {"999 < 100", false},
		{"v < 4", true}, {"v < 3", false}, {"2 < v", true}, {"3 < v", false}, {"w < 1", true}, {"w < v", true}, {"v < w", false}, {"v < v", false},
		{"len r < 2", true}, {"len r < 1", false}, {"0 < len r", true}, {"len e < 1", true}, {"0 < len e", false}, {"0 < len g", true}, {"len e < len g", true}, {"len g < len p", false},
		{"freq < 3", true}, {"freq < 2", false}, {"1 < freq", true}, {"2 < freq", false}, {"freq < v", true}, {"freq < len r", false}, {"freq < freq", false},
	} {
		for nots := range 4 {
			want := "9 1 2 9+"
			if c.so == (nots%2 == 0) {
				want += "/9"
			}
			cond := strings.Repeat("not ", nots) + c.cond
			runScripts(t, []script{
				{head + "on r { if " + cond + " { drop; } }" + miss, want},
				{head + "on r { if " + cond + " { drop; } else { } }" + miss, want},
				{head + "on r { if not " + cond + " { } else { drop; } }" + miss, want},
				{head + "on r { repeat 1 while " + cond + " { drop; } }" + miss, want},
			})
		}
	}
}

func TestP4FrequencyOfAKeyInNoQueue(t *testing.T) {
	runRules(t, "queue r 9; queue p 9; freq 9; ", []script{
		{"on miss { if freq < 1 { put r; bump; } if 0 < freq { drop; } if 0 < freq { put p; } }", "1/1 1/1"},
		{"on r { drop; if 0 < freq { put p; } } on miss { put r; bump; }", "1 1+/1 1 1+/1"},
	})
}

func TestP4Ifs(t *testing.T) {
	// Each of these tells the key as often as the numbers say.
	tell := func(times int) string { return strings.Repeat("put r; drop; ", times) }
	runRules(t, "queue r 1; ", []script{
		{"on miss { if 1 < 2 { " + tell(1) + "} }", "7/7"},
		{"on miss { if 2 < 1 { " + tell(1) + "} }", "7"},
		{"on miss { if 1 < 2 { " + tell(1) + "} else { " + tell(2) + "} }", "7/7"},
		{"on miss { if 2 < 1 { " + tell(1) + "} else { " + tell(2) + "} }", "7/7,7"},
		{"on miss { if 1 < 2 { } else { " + tell(2) + "} " + tell(3) + "}", "7/7,7,7"},
		{"on miss { if 2 < 1 { " + tell(1) + "} " + tell(3) + "}", "7/7,7,7"},
		{"on miss { if 1 < 2 { if 2 < 1 { " + tell(1) + "} else { " + tell(2) + "} } else { " + tell(3) + "} }", "7/7,7"},
		{"on miss { if 1 < 2 { if 2 < 1 { " + tell(1) + "} } else { " + tell(3) + "} }", "7"},
		{"on miss { if 2 < 1 { } else { if 1 < 2 { " + tell(1) + "} else { " + tell(2) + "} " + tell(2) + "} }", "7/7,7,7"},
		{nested(api.MaxDepth, tell(2)), "7/7,7"},
		// The condition is asked once, ahead of the block.
		{"on miss { if empty r { put r; if empty r { drop; } } else { drop; } } on r { drop; }", "7 7+/7"},
	})
}

// times answers a script for one access of 7 that tells it so many times.
func times(count int) string {
	return "7" + strings.Replace(strings.Repeat(",7", count), ",", "/", 1)
}

func TestP4Loops(t *testing.T) {
	const tell = "{ put r; drop; } "
	runRules(t, "queue r 1; queue p 9; var v 9; var w 9; ", []script{
		{"on miss { repeat 1 while 1 < 2 " + tell + "}", times(1)},
		{"on miss { repeat 3 while 1 < 2 " + tell + "}", times(3) + " " + times(3)},
		{"on miss { repeat 50 while 1 < 2 " + tell + "}", times(50)},
		{"on miss { repeat 50 while 2 < 1 " + tell + "}", "7"},
		{"on miss { repeat 50 while v < 4 { inc v; put r; drop; } }", times(4) + " 7"},
		{"on miss { repeat 3 while v < 4 { inc v; put r; drop; } }", times(3) + " 7/7 7"},
		{"on miss { repeat 4 while v < 4 { inc v; put r; drop; } }", times(4) + " 7"},
		{"on miss { repeat 5 while not full r { put r; } drop; }", "7/7"},
		{"on miss { repeat 5 while 1 < 2 { } put r; drop; }", "7/7"},
		{"on miss { repeat 2 while 1 < 2 " + tell + "repeat 3 while 1 < 2 " + tell + "}", times(5)},
		{"on miss { if 1 < 2 { repeat 2 while 1 < 2 " + tell + "} else { repeat 3 while 1 < 2 " + tell + "} }", times(2)},
		{"on miss { repeat 3 while 1 < 2 { if v < 1 { inc v; } else { put r; drop; } } }", times(2) + " " + times(3)},
	})
}

func TestP4LoopsWithinLoops(t *testing.T) {
	const tell = "{ put r; drop; } "
	const twice = "repeat 2 while 1 < 2 " + tell
	runRules(t, "queue r 1; var v 9; var w 9; ", []script{
		{"on miss { repeat 3 while 1 < 2 { repeat 4 while 1 < 2 " + tell + "} }", times(12) + " " + times(12)},
		{"on miss { repeat 50 while 1 < 2 { repeat 50 while 1 < 2 " + tell + "} }", times(2500)},
		{"on miss { repeat 3 while 1 < 2 { " + twice + twice + "} }", times(12)},
		{"on miss { repeat 3 while 1 < 2 { " + twice + "put r; drop; } " + twice + "}", times(11)},
		{"on miss { " + twice + "repeat 3 while 1 < 2 { if 1 < 2 { " + twice + "} } }", times(8)},
		// The inner one stops by its condition, and then begins anew.
		{"on miss { repeat 3 while 1 < 2 { repeat 9 while v < 2 { inc v; put r; drop; } dec v; dec v; } }", times(6)},
		{"on miss { repeat 3 while 1 < 2 { repeat 4 while v < 2 { inc v; put r; drop; } dec v; dec v; } }", times(6)},
		{"on miss { repeat 9 while v < 3 { inc v; repeat 9 while w < v { inc w; put r; drop; } dec w; dec w; dec w; } }", times(6)},
		// The inner one ends what the outer one asks for.
		{"on miss { repeat 9 while v < 4 { repeat 3 while 1 < 2 { inc v; put r; drop; } } }", times(6) + " 7"},
		// The inner one is not come to each time.
		{"on miss { repeat 4 while 1 < 2 { inc v; if v < 3 { repeat 3 while 1 < 2 " + tell + "} } }", times(6)},
		{"on miss { repeat 4 while 1 < 2 { if v < 2 { inc v; } else { repeat 3 while 1 < 2 " + tell + "} } }", times(6) + " " + times(12)},
	})
}

func TestP4AnyKey(t *testing.T) {
	const top = "18446744073709551615"
	runScripts(t, []script{
		{"queue r 2; on r { put r; } on miss { if full r { evict r; } put r; }", "0 " + top + " 0+ 1/" + top + " " + top + "/0 1+ 0/" + top},
		{"queue r 3; on r { drop; } on miss { put r; }", top + " 0 9223372036854775808 9223372036854775808+/9223372036854775808 " + top + "+/" + top + " 0+/0 0 " + top},
		// Keys that are one only in fewer bits, or as floats.
		{"queue r 4; on miss { put r; }", "1 4294967297 9223372036854775809 18446744073709551614 1+ " + top + "=full 4294967297+"},
		{"queue r 2; on miss { put r; }", "9007199254740992 9007199254740993 9007199254740994=full 9007199254740992+"},
		{"queue r 1; on miss { put r; }", "0=none 0 0=gone 0=none " + top + " " + top + "=gone"},
	})
}

func TestP4Remove(t *testing.T) {
	runScripts(t, []script{
		{"queue r 2; ghost g 2; on r { put r; } on miss { if full r { shift r g; } put r; }", "4=none 1 2 3/1 1=gone 1=none 1/2 2=gone 3=gone 3=none 3"},
		// It makes room, at the head, in the middle and at the tail.
		{"queue r 3; on r { evict r; evict r; } on miss { put r; }", "1 2 3 4=full 1=gone 4 4+/2,3 4=empty 4=gone"},
		{"queue r 3; on r { evict r; evict r; } on miss { put r; }", "1 2 3 2=gone 3+/1,3"},
		{"queue r 3; on r { evict r; evict r; } on miss { put r; }", "1 2 3 3=gone 2+/1,2"},
		{"queue r 3; on r { evict r; evict r; } on miss { put r; }", "1 2 3 1=gone 3+/2,3 1=none 2=none"},
		// The frequency is forgotten with the entry.
		{"queue r 1; freq 9; on r { bump; if 1 < freq { drop; } } on miss { put r; }", "1 1+ 1=gone 1 1+ 1+/1"},
		// Variables are left alone.
		{"queue r 1; var v 9; on r { if 0 < v { drop; } } on miss { if v < 1 { inc v; } put r; }", "1 1=gone 1 1+/1"},
		// No rule is run, whatever it says.
		{"queue r 1; on r { evict r; evict r; } on miss { put r; }", "1 1=empty 1=gone 1=none 1"},
		{"ghost g 1; on g { put g; } on miss { put g; }", "1 1=gone 2 1=none 2=gone"},
	})
}

func TestP4RemoveOfAKeyThatWasEvicted(t *testing.T) {
	runScripts(t, []script{
		{"queue r 1; on miss { if full r { evict r; } put r; }", "1 2/1 1=none 2=gone"},
		{"queue r 1; on r { drop; } on miss { put r; }", "1 1+/1 1=none"},
		{"queue a 1; queue b 1; on a { put b; } on miss { put a; }", "1 1+ 1=gone 1=none 1 1+"},
	})
}

// An engine that has come to errors answers everything else as one that was never asked for what led to them.
func TestP4ErrorsMightNotHaveBeen(t *testing.T) {
	for i, src := range []string{
		"queue r 3; var v 3; freq 2; on r { bump; inc v; put r; if 1 < freq { cool r; evict r; evict r; } } on miss { if full r { inc v; cool r; shift r r; if v < 3 { evict r; } } put r; dec v; }",
		"queue a 2; queue b 2; ghost g 3; freq 3; on a { bump; put b; } on b { bump; cool b; shift b a; } on g { put a; shift a g; } on miss { put a; if full a { shift a g; } }",
		"queue a 2; ghost g 2; var v 5; on a { inc v; shift a g; } on g { dec v; put a; if v < 1 { evict g; } } on miss { if full a { evict a; } inc v; put a; if 3 < v { shift a g; dec v; dec v; } }",
	} {
		r := rand.New(rand.NewPCG(uint64(i), 7))
		all, good := load(t, src), load(t, src)
		counts := map[api.Errno]int{}
		for range 3000 {
			key := r.Uint64N(6)
			if r.IntN(9) == 0 {
				if x, y := all.Remove(key), good.Remove(key); x != y {
					t.Fatalf("%q: Remove(%d): %v and %v", src, key, x, y)
				}
				continue
			}
			x := access(all, key)
			counts[x.no]++
			if x.no != api.OK {
				continue
			}
			if y := access(good, key); x.words() != y.words() {
				t.Fatalf("%q: Access(%d): %q and %q", src, key, x.words(), y.words())
			}
		}
		if counts[api.OK] < 100 || counts[api.ErrFull]+counts[api.ErrEmpty] < 100 {
			t.Errorf("%q: too few of one kind: %v", src, counts)
		}
	}
}

// A rule that comes to an error does so each time, as nothing has changed.
func TestP4ErrorsStay(t *testing.T) {
	runScripts(t, []script{
		{"queue r 2; var v 1; on miss { if v < 1 { inc v; evict r; } put r; }", "1=empty 1=empty 2=empty"},
		{"queue r 1; var v 9; on miss { inc v; if 2 < v { put r; drop; } put r; }", "1 2=full 2=full 2=full 1=gone 2 3=full"},
	})
}

func TestP1ListsAreNew(t *testing.T) {
	e := load(t, "queue r 3; on r { evict r; evict r; evict r; put r; } on miss { if full r { evict r; evict r; } put r; }")
	other := load(t, e.Text())
	var lists, copies [][]uint64
	for i := range uint64(300) {
		key := i * i % 7
		_, evicted, _ := e.Access(key)
		_, want, _ := other.Access(key)
		if !slices.Equal(evicted, want) {
			t.Fatalf("Access %d, of %d: evicted %v, want %v", i, key, evicted, want)
		}
		for j, list := range lists {
			if !slices.Equal(list[:cap(list)], copies[j]) {
				t.Fatalf("the list of Access %d changed behind Access %d", j, i)
			}
		}
		spare := evicted[:cap(evicted)]
		for j := range spare {
			spare[j] = 1000 + i
		}
		lists, copies = append(lists, evicted), append(copies, slices.Clone(spare))
	}
}

func TestP1AccessOfNothing(t *testing.T) {
	var none *engine.Engine
	for _, e := range []*engine.Engine{none, new(engine.Engine)} {
		if found, evicted, no := e.Access(7); found || evicted != nil || no != api.OK {
			t.Errorf("Access of an engine that is none: %v, %v, %d", found, evicted, no)
		}
		if e.Remove(7) {
			t.Error("Remove of an engine that is none: true")
		}
	}
}

// Neither a text nor its engine's state is shared with another engine.
func TestP1AccessesStandAlone(t *testing.T) {
	const src = "queue r 2; ghost g 2; var v 9; freq 3; on r { bump; put r; } on g { inc v; put r; } on miss { if full r { if full g { evict g; } shift r g; } put r; }"
	const calls = "1 2 1+ 3/2 4/1 5/3 3=full 1 4+ 5+ 9=none 5=gone"
	want := play(t, load(t, src), calls)
	var group sync.WaitGroup
	for range 8 {
		group.Go(func() {
			for range 50 {
				e, no, _ := engine.Load(src)
				if no != api.OK {
					t.Errorf("Load: error %d", no)
					return
				}
				if got := play(t, e, calls); got != want {
					t.Errorf("got %s, want %s", got, want)
				}
			}
		})
	}
	group.Wait()
}

// The text of a policy does not hang on what its engine has been asked for.
func TestP3TextBehindAccesses(t *testing.T) {
	e := load(t, whole)
	before := e.Text()
	for key := range uint64(200) {
		e.Access(key % 9 * (math.MaxUint64 / 8))
		e.Remove(key % 5)
	}
	if after := e.Text(); after != before {
		t.Errorf("the text became %q", after)
	}
}
