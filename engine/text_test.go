package engine_test

import (
	"math/rand/v2"
	"strconv"
	"strings"
	"sync"
	"testing"

	"evictor/api"
	"evictor/engine"
)

// wantText holds the text of a policy's engine against a wanted one, and that text's own against itself.
func wantText(t *testing.T, src, want string) {
	t.Helper()
	e, no, at := engine.Load(src)
	if no != api.OK {
		t.Fatalf("Load(%q): error %d at %d", src, no, at)
	}
	for range 2 {
		if got := e.Text(); got != want {
			t.Fatalf("Text of %q:\n got %q\nwant %q", src, got, want)
		}
	}
	again, no, at := engine.Load(want)
	if len(want) > api.MaxText {
		if no != api.ErrLong {
			t.Errorf("Load of a text of %d bytes: error %d, want ErrLong", len(want), no)
		}
		return
	}
	if no != api.OK {
		t.Fatalf("Load of the text %q: error %d at %d", want, no, at)
	}
	if got := again.Text(); got != want {
		t.Errorf("the text of the text %q is %q", want, got)
	}
}

type textCase struct{ src, want string }

func runTextCases(t *testing.T, cases []textCase) {
	t.Helper()
	for _, c := range cases {
		wantText(t, c.src, c.want)
	}
}

// runBlockCases puts texts of statements into a rule of a policy that declares r, g and v.
func runBlockCases(t *testing.T, cases []textCase) {
	t.Helper()
	const head = "queue r 1;\nghost g 2;\nvar v 3;\n"
	for _, c := range cases {
		wantText(t, head+"on miss{"+c.src+"}", head+"on miss { "+c.want+" }\n")
		wantText(t, head+"on miss{}on g{"+c.src+"}", head+"on g { "+c.want+" }\non miss { }\n")
	}
}

func TestP3Examples(t *testing.T) {
	runTextCases(t, []textCase{
		{
			"queue r 2; on r { put r; } on miss { if full r { evict r; } put r; }",
			"queue r 2;\non r { put r; }\non miss { if full r { evict r; } put r; }\n",
		},
		{
			"queue r 007;\non miss { if not not full r { } else { drop ; } }",
			"queue r 7;\non miss { if full r { } else { drop; } }\n",
		},
	})
}

func TestP3Whole(t *testing.T) {
	wantText(t, whole, `queue small 5;
ghost out 9;
var v 9;
freq 3;
on small { bump; put small; put small tail; }
on out { if not warm small { cool small; inc v; } else { dec v; drop; } }
on miss { repeat 50 while full small { if v < len out { shift small out; } shift small small tail; } if freq < 3 { evict small; } if empty small { } }
`)
}

func TestP3Blanks(t *testing.T) {
	const want = "queue r 2;\nvar v 1;\nfreq 9;\non r { put r tail; }\non miss { if v < 3 { } }\n"
	runTextCases(t, []textCase{
		{want, want},
		{"queue r2;var v1;freq9;on r{put r tail;}on miss{if v<3{}}", want},
		{strings.ReplaceAll(want, " ", "\n"), want},
		{strings.ReplaceAll(want, "\n", "   "), want},
		{"\n \n" + strings.NewReplacer(" ", "\n \n ", ";", " \n;\n").Replace(want) + " \n ", want},
		{"on miss{}", "on miss { }\n"},
	})
}

func TestP3OrderOfDeclarations(t *testing.T) {
	runTextCases(t, []textCase{
		{"freq 1; queue r 2; on miss { }", "queue r 2;\nfreq 1;\non miss { }\n"},
		{"queue r 2; freq 1; ghost g 1; on miss { }", "queue r 2;\nghost g 1;\nfreq 1;\non miss { }\n"},
		{"var z 3; ghost y 2; queue x 1; freq 4; on miss { }", "var z 3;\nghost y 2;\nqueue x 1;\nfreq 4;\non miss { }\n"},
		{"queue b 1; queue a 1; var d 1; var c 1; on miss { }", "queue b 1;\nqueue a 1;\nvar d 1;\nvar c 1;\non miss { }\n"},
		{"freq 99; on miss { }", "freq 99;\non miss { }\n"},
	})
}

func TestP3OrderOfRules(t *testing.T) {
	runTextCases(t, []textCase{
		{"queue r 2; on miss { } on r { }", "queue r 2;\non r { }\non miss { }\n"},
		{
			"ghost z 1; var m 1; queue a 1; queue b 1; on miss { bump; } on b { put b; } on a { put a; } on z { put z; }",
			"ghost z 1;\nvar m 1;\nqueue a 1;\nqueue b 1;\non z { put z; }\non a { put a; }\non b { put b; }\non miss { bump; }\n",
		},
		{
			"queue c 1; queue b 1; queue a 1; on a { } on miss { } on c { }",
			"queue c 1;\nqueue b 1;\nqueue a 1;\non c { }\non a { }\non miss { }\n",
		},
		{
			"queue misses 1; queue onmiss 2; on onmiss { } on miss { } on misses { }",
			"queue misses 1;\nqueue onmiss 2;\non misses { }\non onmiss { }\non miss { }\n",
		},
	})
}

func TestP3Numbers(t *testing.T) {
	runTextCases(t, []textCase{
		{"queue r 050; ghost g 01; var v 099; freq 007; on miss { }", "queue r 50;\nghost g 1;\nvar v 99;\nfreq 7;\non miss { }\n"},
		{"queue r 10; ghost g 010; on miss { }", "queue r 10;\nghost g 10;\non miss { }\n"},
	})
	runBlockCases(t, []textCase{
		{"if 0<00{}", "if 0 < 0 { }"},
		{"if 000<100{}", "if 0 < 100 { }"},
		{"if 010<001{}", "if 10 < 1 { }"},
		{"if 999<v{}", "if 999 < v { }"},
		{"repeat 050 while v<090{}", "repeat 50 while v < 90 { }"},
		{"repeat 001 while 0<v{}", "repeat 1 while 0 < v { }"},
	})
}

func TestP3Statements(t *testing.T) {
	runBlockCases(t, []textCase{
		{"put r;put g tail;", "put r; put g tail;"},
		{"evict g ;evict r;", "evict g; evict r;"},
		{"shift r g;shift g r tail;shift r r;", "shift r g; shift g r tail; shift r r;"},
		{"drop;bump;", "drop; bump;"},
		{"inc v;dec v;", "inc v; dec v;"},
		{"cool r;cool g;", "cool r; cool g;"},
		{"drop;drop;drop;", "drop; drop; drop;"},
		{"if full r{drop;bump;}", "if full r { drop; bump; }"},
		{"repeat 3 while warm g{cool g;shift g g;}evict g;", "repeat 3 while warm g { cool g; shift g g; } evict g;"},
	})
}

func TestP3Else(t *testing.T) {
	runBlockCases(t, []textCase{
		{"if full r{}", "if full r { }"},
		{"if full r{}else{}", "if full r { } else { }"},
		{"if full r{drop;}else{}", "if full r { drop; } else { }"},
		{"if full r{}else{drop;}", "if full r { } else { drop; }"},
		{"if full r{}else{if full g{}else{}}", "if full r { } else { if full g { } else { } }"},
		{"if full r{if full g{}}else{}", "if full r { if full g { } } else { }"},
		{"if full r{if full g{}else{}}", "if full r { if full g { } else { } }"},
	})
}

func TestP3Conditions(t *testing.T) {
	runBlockCases(t, []textCase{
		{"if full g{}", "if full g { }"},
		{"if empty r{}", "if empty r { }"},
		{"if warm r{}", "if warm r { }"},
		{"if v<len r{}", "if v < len r { }"},
		{"if len g<v{}", "if len g < v { }"},
		{"if freq<freq{}", "if freq < freq { }"},
		{"if 3<freq{}", "if 3 < freq { }"},
		{"if len r<3{}", "if len r < 3 { }"},
	})
}

func TestP3Nots(t *testing.T) {
	for nots := range 60 {
		ahead, want := strings.Repeat("not ", nots), ""
		if nots%2 == 1 {
			want = "not "
		}
		runBlockCases(t, []textCase{
			{"if " + ahead + "full r{}", "if " + want + "full r { }"},
			{"if " + ahead + "v<3{}", "if " + want + "v < 3 { }"},
			{"repeat 2 while " + ahead + "warm g{}", "repeat 2 while " + want + "warm g { }"},
			{"if not full r{if " + ahead + "empty g{}}", "if not full r { if " + want + "empty g { } }"},
		})
	}
}

func TestP3BlocksWithinBlocks(t *testing.T) {
	for blocks := 1; blocks <= api.MaxDepth; blocks++ {
		src := nested(blocks, "drop;")
		wantText(t, src, src+"\n")
	}
	runBlockCases(t, []textCase{
		{
			"repeat 2 while full r{if v<2{repeat 3 while empty g{drop;}bump;}else{drop;}inc v;}dec v;",
			"repeat 2 while full r { if v < 2 { repeat 3 while empty g { drop; } bump; } else { drop; } inc v; } dec v;",
		},
	})
}

// A text may be longer than the policy it is of, and than any policy.
func TestP3LongText(t *testing.T) {
	const count = (api.MaxText - len("on miss{}")) / len("drop;")
	src := "on miss{" + strings.Repeat("drop;", count) + "}"
	wantText(t, src, "on miss { "+strings.Repeat("drop; ", count)+"}\n")
}

// What is wrong is no policy, and an engine that Load did not make has no text.
func TestP1TextOfNothing(t *testing.T) {
	for _, src := range []string{"", "queue r 2; on r { }", "on miss { put r; }", "on miss {"} {
		if e, no, _ := engine.Load(src); e != nil || no == api.OK {
			t.Errorf("Load(%q) = %v, %d, want an error", src, e, no)
		}
	}
	var none *engine.Engine
	for _, e := range []*engine.Engine{none, new(engine.Engine)} {
		if got := e.Text(); got != "" {
			t.Errorf("the text of nothing is %q", got)
		}
	}
}

func TestP1TextsStandAlone(t *testing.T) {
	policies := []textCase{
		{"queue r 02;on miss{}", "queue r 2;\non miss { }\n"},
		{"freq 1;on miss{bump;}", "freq 1;\non miss { bump; }\n"},
	}
	var engines []*engine.Engine
	for _, p := range policies {
		e, no, _ := engine.Load(p.src)
		if no != api.OK {
			t.Fatalf("Load(%q): error %d", p.src, no)
		}
		engines = append(engines, e)
	}
	var group sync.WaitGroup
	for i, e := range engines {
		group.Go(func() {
			for range 100 {
				if got := e.Text(); got != policies[i].want {
					t.Errorf("Text of %q: %q", policies[i].src, got)
				}
			}
		})
	}
	group.Wait()
}

// maker makes up policies: the tokens of one as somebody may write them, and beside them those of its text.
type maker struct {
	*rand.Rand
	src, want []string
}

func (m *maker) pick(words ...string) string { return words[m.IntN(len(words))] }

func (m *maker) token(words ...string) {
	m.src = append(m.src, words...)
	m.want = append(m.want, words...)
}

func (m *maker) number(least, most int) {
	digits := strconv.Itoa(least + m.IntN(most-least+1))
	m.want = append(m.want, digits)
	m.src = append(m.src, strings.Repeat("0", m.IntN(4-len(digits)))+digits)
}

func (m *maker) nots() {
	count := m.IntN(4)
	for range count {
		m.src = append(m.src, "not")
	}
	if count%2 == 1 {
		m.want = append(m.want, "not")
	}
}

func (m *maker) value() {
	switch m.IntN(4) {
	case 0:
		m.number(0, 999)
	case 1:
		m.token(m.pick("v", "w"))
	case 2:
		m.token("len", m.pick("r", "g", "s"))
	case 3:
		m.token("freq")
	}
}

func (m *maker) cond() {
	m.nots()
	if m.IntN(2) == 0 {
		m.token(m.pick("full", "empty", "warm"), m.pick("r", "g", "s"))
		return
	}
	m.value()
	m.token("<")
	m.value()
}

func (m *maker) block(blocks, loops int) {
	m.token("{")
	for range m.IntN(4) {
		m.stmt(blocks, loops)
	}
	m.token("}")
}

func (m *maker) stmt(blocks, loops int) {
	switch kind := m.IntN(9); {
	case kind == 0 && blocks < api.MaxDepth:
		m.token("if")
		m.cond()
		m.block(blocks+1, loops)
		if m.IntN(2) == 0 {
			m.token("else")
			m.block(blocks+1, loops)
		}
	case kind == 1 && blocks < api.MaxDepth && loops < api.MaxLoops:
		m.token("repeat")
		m.number(1, api.MaxRepeat)
		m.token("while")
		m.cond()
		m.block(blocks+1, loops+1)
	default:
		m.plain()
	}
}

func (m *maker) plain() {
	switch m.IntN(5) {
	case 0:
		m.token(m.pick("evict", "cool"), m.pick("r", "g", "s"))
	case 1:
		m.token(m.pick("inc", "dec"), m.pick("v", "w"))
	case 2:
		m.token(m.pick("drop", "bump"))
	case 3:
		m.token("shift", m.pick("r", "g", "s"), m.pick("r", "g", "s"))
		m.tail()
	case 4:
		m.token("put", m.pick("r", "g", "s"))
		m.tail()
	}
	m.token(";")
}

func (m *maker) tail() {
	if m.IntN(2) == 0 {
		m.token("tail")
	}
}

// line makes a piece of a policy on its own: how it is written, and its line of the text.
func (m *maker) line(add func()) textCase {
	m.src, m.want = nil, nil
	add()
	var src strings.Builder
	for _, token := range m.src {
		src.WriteString(token + m.pick(" ", "\n", "  ", " \n "))
	}
	return textCase{src.String(), strings.ReplaceAll(strings.Join(m.want, " "), " ;", ";") + "\n"}
}

func (m *maker) names() []textCase {
	var lines []textCase
	for _, name := range []string{"s", "v", "g", "w", "r"} {
		word := "var"
		if name != "v" && name != "w" {
			word = m.pick("queue", "ghost")
		}
		lines = append(lines, m.line(func() {
			m.token(word, name)
			m.number(1, api.MaxCap)
			m.token(";")
		}))
	}
	return lines
}

func (m *maker) rules() []textCase {
	var lines []textCase
	for _, event := range []string{"s", "g", "r", "miss"} {
		if event == "miss" || m.IntN(3) > 0 {
			lines = append(lines, m.line(func() {
				m.token("on", event)
				m.block(1, 0)
			}))
		}
	}
	return lines
}

func (m *maker) policy() textCase {
	var src, want strings.Builder
	freq := m.line(func() { m.token("freq"); m.number(1, api.MaxValue); m.token(";") })
	names, freqAt := m.names(), m.IntN(8)
	for i, line := range names {
		if i == freqAt {
			src.WriteString(freq.src)
		}
		src.WriteString(line.src)
		want.WriteString(line.want)
	}
	if freqAt < len(names) {
		want.WriteString(freq.want)
	}
	rules := m.rules()
	for _, line := range rules {
		want.WriteString(line.want)
	}
	m.Shuffle(len(rules), func(i, j int) { rules[i], rules[j] = rules[j], rules[i] })
	for _, line := range rules {
		src.WriteString(line.src)
	}
	return textCase{src.String(), want.String()}
}

func TestP3MadeUpPolicies(t *testing.T) {
	m := &maker{Rand: rand.New(rand.NewPCG(1, 2))}
	tried := 0
	for range 5000 {
		p := m.policy()
		if len(p.src) <= api.MaxText {
			wantText(t, p.src, p.want)
			tried++
		}
	}
	if tried < 1000 {
		t.Errorf("only %d policies were short enough", tried)
	}
}
