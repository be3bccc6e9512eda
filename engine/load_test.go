package engine_test

import (
	"math"
	"strings"
	"sync"
	"testing"

	"evictor/api"
	"evictor/engine"
)

// whole uses every form of the grammar once at least.
const whole = `queue small 5; ghost out 9; var v 9; freq 3;
on small { bump; put small; put small tail; }
on out { if not warm small { cool small; inc v; } else { dec v; drop; } }
on miss { repeat 50 while full small { if v < len out { shift small out; } shift small small tail; }
if freq < 3 { evict small; } if not not empty small { } }`

// cut takes the mark @ out of a text and answers where it stood: 0, if there is none.
func cut(marked string) (string, int) {
	at := max(strings.Index(marked, "@"), 0)
	return strings.Replace(marked, "@", "", 1), at
}

func wantLoad(t *testing.T, src string, want api.Errno, at int) {
	t.Helper()
	e, no, place := engine.Load(src)
	if (e != nil) != (want == api.OK) || no != want || place != at {
		t.Errorf("Load(%q) = %v, %d, %d, want error %d at %d", src, e, no, place, want, at)
	}
}

type loadCase struct {
	marked string
	want   api.Errno
}

func runLoadCases(t *testing.T, cases []loadCase) {
	t.Helper()
	for _, c := range cases {
		src, at := cut(c.marked)
		wantLoad(t, src, c.want, at)
	}
}

// nested answers a policy with that many blocks within each other, the last holding a text.
func nested(blocks int, inner string) string {
	open := "on miss " + strings.Repeat("{ if 1 < 2 ", blocks-1) + "{ "
	return open + inner + strings.Repeat(" }", blocks)
}

func manyNames(count int) string {
	var b strings.Builder
	for i := range count {
		b.WriteString("queue q" + string(rune('a'+i)) + " 1; ")
	}
	return b.String()
}

func TestP2GoodPolicies(t *testing.T) {
	for _, src := range []string{
		whole,
		"on miss { }",
		"on\nmiss{}",
		"\n \non miss { }\n \n",
		"queue r 2; on r { put r; } on miss { if full r { evict r; } put r; }",
		"queue r 3; freq 1; on r { bump; } on miss { if full r { repeat 50 while warm r { cool r; shift r r; } evict r; } put r; }",
		"queue in 1; ghost out 2; on miss { if full in { shift in out; } put in; }",
		"queue r 007;\non miss { if not not full r { } else { drop ; } }",
		"queue r1;on miss{}",
		"freq 1; queue r 1; on miss { } on r { }",
		"queue ques 1; on ques { put ques; } on miss { put ques tail; }",
		"on miss { if 0<999{}else{}bump;}",
		"queue abcdefgh 50; ghost g 50; var v 99; freq 99; on miss { repeat 50 while 1 < 2 { } }",
		"queue a 1; ghost g 1; var v 1; freq 1; on miss { repeat 1 while 1 < 2 { } }",
		manyNames(api.MaxNames) + "freq 1; on miss { }",
	} {
		wantLoad(t, src, api.OK, 0)
	}
}

func TestP2Long(t *testing.T) {
	good := "on miss { }"
	good += strings.Repeat(" ", api.MaxText-len(good))
	wantLoad(t, good, api.OK, 0)
	wantLoad(t, good+" ", api.ErrLong, 0)
	wantLoad(t, good+"!", api.ErrLong, 0)
	wantLoad(t, strings.Repeat("on miss { put ", 100000), api.ErrLong, 0)
	wantLoad(t, strings.Repeat(" ", api.MaxText), api.ErrMiss, 0)
}

func TestP2NoToken(t *testing.T) {
	runLoadCases(t, []loadCase{
		{"queue @abcdefghi 1;", api.ErrSyntax},
		{"@queuequeue r 1;", api.ErrSyntax},
		{"queue r @1000;", api.ErrSyntax},
		{"queue r @0001;", api.ErrSyntax},
		{"queue r 1;@\ton miss { }", api.ErrSyntax},
		{"queue r 1;@\r\non miss { }", api.ErrSyntax},
		{"@Queue r 1;", api.ErrSyntax},
		{"queue r@R 1;", api.ErrSyntax},
		{"queue r @-1;", api.ErrSyntax},
		{"queue @é 1;", api.ErrSyntax},
		{"queue @\x00 1;", api.ErrSyntax},
		{"queue @\xff 1;", api.ErrSyntax},
		{"on miss { put x; @! }", api.ErrSyntax},
		{"on miss { } @?", api.ErrSyntax},
		{"on miss { if 1 @> 2 { } }", api.ErrSyntax},
		{"queue @` 1; on miss { }", api.ErrSyntax},
		{"queue r @{", api.ErrSyntax},
		{"queue r 1@:", api.ErrSyntax},
		{"queue r @/1;", api.ErrSyntax},
	})
}

func TestP2Declarations(t *testing.T) {
	runLoadCases(t, []loadCase{
		{"queue r 1@", api.ErrSyntax},
		{"queue r 1 \n @", api.ErrSyntax},
		{"queue@", api.ErrSyntax},
		{"queue @on 1;", api.ErrSyntax},
		{"queue @len 1;", api.ErrSyntax},
		{"queue r @r;", api.ErrSyntax},
		{"queue @1 r;", api.ErrSyntax},
		{"queue r 1 @2;", api.ErrSyntax},
		{"var @; on miss { }", api.ErrSyntax},
		{"freq @r 1;", api.ErrSyntax},
		{"freq @;", api.ErrSyntax},
		{"@r 1;", api.ErrSyntax},
		{"@;", api.ErrSyntax},
		{"on miss { } @queue r 1;", api.ErrSyntax},
		{"on miss { } @freq 1;", api.ErrSyntax},
	})
}

func TestP2Rules(t *testing.T) {
	runLoadCases(t, []loadCase{
		{"on@", api.ErrSyntax},
		{"on @{ }", api.ErrSyntax},
		{"on @queue { }", api.ErrSyntax},
		{"on @1 { }", api.ErrSyntax},
		{"on miss@", api.ErrSyntax},
		{"on miss @put r;", api.ErrSyntax},
		{"on miss {@", api.ErrSyntax},
		{"on miss { } @}", api.ErrSyntax},
		{"on miss { } @x", api.ErrSyntax},
		{"on miss { } @{ }", api.ErrSyntax},
		{"on miss { @{ } }", api.ErrSyntax},
		{"on miss { @on miss { } }", api.ErrSyntax},
	})
}

func TestP2Statements(t *testing.T) {
	runLoadCases(t, []loadCase{
		{"queue r 1; on miss { put r @}", api.ErrSyntax},
		{"queue r 1; on miss { put @; }", api.ErrSyntax},
		{"queue r 1; on miss { put r @r; }", api.ErrSyntax},
		{"queue r 1; on miss { put r tail @tail; }", api.ErrSyntax},
		{"queue r 1; on miss { put @tail; }", api.ErrSyntax},
		{"queue r 1; on miss { evict r @tail; }", api.ErrSyntax},
		{"queue r 1; on miss { evict @; }", api.ErrSyntax},
		{"queue r 1; on miss { shift r @; }", api.ErrSyntax},
		{"queue r 1; on miss { shift r @tail; }", api.ErrSyntax},
		{"queue r 1; on miss { shift r r @r; }", api.ErrSyntax},
		{"on miss { drop @x; }", api.ErrSyntax},
		{"on miss { bump @x; }", api.ErrSyntax},
		{"on miss { inc @; }", api.ErrSyntax},
		{"on miss { dec @1; }", api.ErrSyntax},
		{"on miss { cool @; }", api.ErrSyntax},
		{"on miss { @; }", api.ErrSyntax},
		{"on miss { @r; }", api.ErrSyntax},
		{"on miss { @full r; }", api.ErrSyntax},
		{"on miss { @else { } }", api.ErrSyntax},
		{"on miss { if 1 < 2 { } else { } @else { } }", api.ErrSyntax},
		{"on miss { if 1 < 2 { } else @if 1 < 2 { } }", api.ErrSyntax},
		{"on miss { if 1 < 2 { } else @else { } }", api.ErrSyntax},
		{"on miss { if 1 < 2 { }@; }", api.ErrSyntax},
		{"on miss { if 1 < 2 @drop; }", api.ErrSyntax},
		{"on miss { repeat @while 1 < 2 { } }", api.ErrSyntax},
		{"on miss { repeat @x while 1 < 2 { } }", api.ErrSyntax},
		{"on miss { repeat 5 @1 < 2 { } }", api.ErrSyntax},
		{"on miss { repeat 5 while 1 < 2 { } @else { } }", api.ErrSyntax},
	})
}

func TestP2Conditions(t *testing.T) {
	runLoadCases(t, []loadCase{
		{"on miss { if @{ } }", api.ErrSyntax},
		{"on miss { if not @{ } }", api.ErrSyntax},
		{"on miss { if full @{ } }", api.ErrSyntax},
		{"on miss { if empty @1 { } }", api.ErrSyntax},
		{"on miss { if warm @not r { } }", api.ErrSyntax},
		{"on miss { if x @{ } }", api.ErrSyntax},
		{"on miss { if x < @{ } }", api.ErrSyntax},
		{"on miss { if @< x { } }", api.ErrSyntax},
		{"on miss { if 1 < 2 @< 3 { } }", api.ErrSyntax},
		{"on miss { if 1 < @not 2 { } }", api.ErrSyntax},
		{"on miss { if len @1 < 2 { } }", api.ErrSyntax},
		{"on miss { if freq @{ } }", api.ErrSyntax},
		{"on miss { if freq @r < 1 { } }", api.ErrSyntax},
	})
}

func TestP2Deep(t *testing.T) {
	loops := "on miss { repeat 1 while 1 < 2 { if 1 < 2 { } else { repeat 1 while 1 < 2 { "
	runLoadCases(t, []loadCase{
		{nested(api.MaxDepth, "drop;"), api.OK},
		{nested(api.MaxDepth, "if 1 < 2 @{ }"), api.ErrDeep},
		{nested(api.MaxDepth, "repeat 1 while 1 < 2 @{ }"), api.ErrDeep},
		{nested(api.MaxDepth-1, "if 1 < 2 { } else { } if 1 < 2 { }"), api.OK},
		{nested(api.MaxDepth-1, "if 1 < 2 { } else { if 1 < 2 @{ } }"), api.ErrDeep},
		{nested(api.MaxDepth, "") + nested(api.MaxDepth, "if 1 < 2 @{ }"), api.ErrDeep},
		{loops + "} repeat 1 while 1 < 2 { } } } repeat 1 while 1 < 2 { } }", api.OK},
		{loops + "@repeat 1 while 1 < 2 { } } } } }", api.ErrDeep},
		{loops + "if 1 < 2 { @repeat", api.ErrDeep},
		{loops + "if 1 < 2 { } else { @repeat !", api.ErrDeep},
	})
}

// A fault of the grammar and one of the depth: the one more to the left is told, and at one place that of the grammar.
func TestP2SyntaxAndDeep(t *testing.T) {
	loops := "on miss { repeat 1 while 1 < 2 { repeat 1 while 1 < 2 { "
	runLoadCases(t, []loadCase{
		{nested(api.MaxDepth, "if 1 < 2 @{ ! }"), api.ErrDeep},
		{nested(api.MaxDepth, "@! if 1 < 2 { }"), api.ErrSyntax},
		{nested(api.MaxDepth, "if 1 @{ }"), api.ErrSyntax},
		{nested(api.MaxDepth, "@{ }"), api.ErrSyntax},
		{nested(api.MaxDepth, "if 1 < 2 @;"), api.ErrSyntax},
		{loops + "put @repeat", api.ErrSyntax},
		{loops + "@repeat 1000", api.ErrDeep},
	})
}

// What is wrong with names and numbers is told only of a text that the grammar takes.
func TestP2GrammarGoesAheadOfNames(t *testing.T) {
	runLoadCases(t, []loadCase{
		{"queue r 0; queue r 1; on miss { put x; } @!", api.ErrSyntax},
		{"queue r 0; @put", api.ErrSyntax},
		{"on x { } on x { inc y; put@", api.ErrSyntax},
		{"freq 0; freq 0; " + nested(api.MaxDepth, "if 1 < 2 @{ }"), api.ErrDeep},
		{"on x { } on x { @", api.ErrSyntax},
	})
}

func TestP2TwiceAndMany(t *testing.T) {
	full := manyNames(api.MaxNames)
	runLoadCases(t, []loadCase{
		{"queue r 1; var @r 2; on miss { }", api.ErrTwice},
		{"queue r 1; queue @r 1; on miss { }", api.ErrTwice},
		{"var r 1; ghost @r 1; on miss { }", api.ErrTwice},
		{"freq 1; queue r 1; @freq 1; on miss { }", api.ErrTwice},
		{"freq 1; @freq 0; on miss { }", api.ErrTwice},
		{full + "var @x 1; on miss { }", api.ErrMany},
		{full + "queue @x 0; on miss { }", api.ErrMany},
		{full + "queue @qa 1; on miss { }", api.ErrTwice},
		{full + "ghost @x 1; queue x 1; on miss { }", api.ErrMany},
	})
}

func TestP2Numbers(t *testing.T) {
	runLoadCases(t, []loadCase{
		{"queue r @0; on miss { }", api.ErrNumber},
		{"queue r @000; on miss { }", api.ErrNumber},
		{"queue r @51; on miss { }", api.ErrNumber},
		{"ghost r @0; on miss { }", api.ErrNumber},
		{"ghost r @51; on miss { }", api.ErrNumber},
		{"var r @0; on miss { }", api.ErrNumber},
		{"var r @100; on miss { }", api.ErrNumber},
		{"freq @0; on miss { }", api.ErrNumber},
		{"freq @100; on miss { }", api.ErrNumber},
		{"on miss { repeat @0 while 1 < 2 { } }", api.ErrNumber},
		{"on miss { repeat @51 while 1 < 2 { } }", api.ErrNumber},
		{"on miss { if 000 < 999 { } }", api.OK},
	})
}

func TestP2NamesOfRules(t *testing.T) {
	const head = "queue r 1; ghost g 1; var v 1; "
	runLoadCases(t, []loadCase{
		{"on @x { } on miss { }", api.ErrNone},
		{head + "on @v { } on miss { }", api.ErrKind},
		{head + "on g { } on r { } on miss { }", api.OK},
	})
	for _, form := range []string{
		"put @N;", "put @N tail;", "evict @N;", "shift @N r;", "shift r @N;", "shift g @N tail;", "cool @N;",
		"if full @N { }", "if empty @N { }", "if not warm @N { }", "if len @N < 1 { }", "if 1 < len @N { }",
		"repeat 1 while full @N { }", "if 1 < 2 { put @N; }", "if 1 < 2 { } else { put @N; }", "repeat 1 while 1 < 2 { put @N; }",
	} {
		runNameCases(t, head, form, []string{"r", "g"}, "v")
	}
	for _, form := range []string{
		"inc @N;", "dec @N;", "if @N < 1 { }", "if 1 < @N { }", "if not @N < freq { }", "repeat 1 while @N < 1 { }",
	} {
		runNameCases(t, head, form, []string{"v"}, "r")
		runNameCases(t, head, form, nil, "g")
	}
}

// runNameCases puts names in the place of N: good ones, one of the other kind, and one that is not declared.
func runNameCases(t *testing.T, head, form string, good []string, other string) {
	t.Helper()
	with := func(name string) string {
		return head + "on miss { " + strings.Replace(form, "N", name, 1) + " }"
	}
	for _, name := range good {
		src, _ := cut(with(name))
		wantLoad(t, src, api.OK, 0)
	}
	runLoadCases(t, []loadCase{{with(other), api.ErrKind}, {with("x"), api.ErrNone}})
}

func TestP2RuleAndMiss(t *testing.T) {
	runLoadCases(t, []loadCase{
		{"on miss { } @on miss { }", api.ErrRule},
		{"queue r 1; on r { } @on r { } on miss { }", api.ErrRule},
		{"ghost g 1; on g { } on miss { } @on g { put x; }", api.ErrRule},
		{"", api.ErrMiss},
		{"queue r 1;", api.ErrMiss},
		{"queue r 1; on r { }", api.ErrMiss},
	})
}

// Of the faults of names and numbers the first in the text is told, whatever it is; a missing rule comes last.
func TestP2FirstInTheText(t *testing.T) {
	runLoadCases(t, []loadCase{
		{"queue r @0; queue r 0; on miss { }", api.ErrNumber},
		{"queue r 1; queue @r 0; on miss { }", api.ErrTwice},
		{"freq @0; freq 1; on miss { }", api.ErrNumber},
		{"on miss { put @x; } on miss { }", api.ErrNone},
		{"on miss { repeat @0 while x < y { } }", api.ErrNumber},
		{"queue r 1; on miss { shift @x y; inc r; }", api.ErrNone},
		{"queue r 1; on miss { if r@", api.ErrSyntax},
		{"queue r 1; on miss { if @r < x { inc x; } }", api.ErrKind},
		{"queue r 1; on miss { if 1 < 2 { inc @r; } else { put x; } }", api.ErrKind},
		{"queue r @0;", api.ErrNumber},
		{"on @x { }", api.ErrNone},
		{"on @x { } on x { }", api.ErrNone},
	})
}

// Each beginning of a policy that ends ahead of its last rule's end is a text that ends too soon, at its length.
func TestP2Beginnings(t *testing.T) {
	const lastRule = "on miss { if not full r { put r tail; } else { repeat 5 while len r < 9 { shift r r; } } }"
	head := "queue r 1; "
	for n := len("on "); n < len(lastRule); n++ {
		if lastRule[n] == ' ' {
			src := head + lastRule[:n]
			wantLoad(t, src, api.ErrSyntax, len(src))
		}
	}
	wantLoad(t, head+lastRule, api.OK, 0)
}

// checkLoad holds an answer against what P1 says of all of them.
func checkLoad(t *testing.T, src string) {
	t.Helper()
	e, no, at := engine.Load(src)
	if (e == nil) != (no != api.OK) {
		t.Fatalf("Load(%q): an engine %v beside error %d", src, e, no)
	}
	if no < api.OK || no > api.ErrMiss || at < 0 || at > len(src) || no == api.OK && at != 0 {
		t.Fatalf("Load(%q): error %d at %d", src, no, at)
	}
	if e != nil {
		wantText(t, src, e.Text())
	}
}

func TestP1AnyText(t *testing.T) {
	wantLoad(t, whole, api.OK, 0)
	for n := range len(whole) {
		checkLoad(t, whole[:n])
		checkLoad(t, whole[n:])
		for b := range 256 {
			checkLoad(t, whole[:n]+string([]byte{byte(b)})+whole[n+1:])
		}
	}
	for _, piece := range []string{"{", "}", "not ", "on miss { if not ", "repeat ", "on miss {", "if 1 < ", "\n", "\xff", "9"} {
		for n := range api.MaxText + 2 {
			checkLoad(t, strings.Repeat(piece, n))
			checkLoad(t, "on miss { if "+strings.Repeat(piece, n))
		}
	}
}

func TestP1AnyKeyAndName(t *testing.T) {
	e, no, _ := engine.Load(whole)
	if no != api.OK {
		t.Fatalf("Load: error %d", no)
	}
	for _, key := range []uint64{0, 1, math.MaxUint64, 1 << 63} {
		if found, evicted, no := e.Access(key); no != api.OK && (found || evicted != nil) {
			t.Errorf("Access(%d) = %v, %v beside error %d", key, found, evicted, no)
		}
		e.Remove(key)
	}
	for _, name := range []string{"", "small", "v", "miss", "!", strings.Repeat("x", 100000)} {
		if keys, no := e.Keys(name); no != api.OK && keys != nil {
			t.Errorf("Keys(%.10q) = %v beside error %d", name, keys, no)
		}
		if value, no := e.Value(name); no != api.OK && value != 0 {
			t.Errorf("Value(%.10q) = %d beside error %d", name, value, no)
		}
	}
	e.Text()
	e.Counts()
}

func TestP1EnginesStandAlone(t *testing.T) {
	a, _, _ := engine.Load(whole)
	b, _, _ := engine.Load(whole)
	if a == b {
		t.Error("two calls of Load gave one engine")
	}
	var group sync.WaitGroup
	for range 8 {
		group.Go(func() {
			for range 100 {
				wantLoad(t, whole, api.OK, 0)
				wantLoad(t, "queue r 1; on miss { put x; }", api.ErrNone, 25)
				wantLoad(t, "on miss {", api.ErrSyntax, 9)
			}
		})
	}
	group.Wait()
}
