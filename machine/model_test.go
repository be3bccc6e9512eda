package machine

import (
	"errors"
	"maps"
	"math"
	"math/rand/v2"
	"slices"
	"strconv"
	"strings"
	"testing"

	"evictor/api"
	"evictor/policy"
)

// model does what the document says as plainly as it can: it walks the tree of a policy and keeps each queue as a list, its head first. The machine is held against it.
type model struct {
	policy  *policy.Policy
	kinds   map[string]string
	numbers map[string]int
	queues  map[string][]entry
	vars    map[string]int
	key     uint64
	evicted []uint64
	failed  error
}

type entry struct {
	key  uint64
	freq int
}

func newModel(p *policy.Policy) *model {
	m := &model{policy: p, kinds: map[string]string{}, numbers: map[string]int{}, queues: map[string][]entry{}, vars: map[string]int{}}
	for _, d := range p.Decls {
		name := d.Name.Text
		if d.Word == "freq" {
			name = "freq"
		}
		m.kinds[name], m.numbers[name] = d.Word, d.Number.Value
	}
	return m
}

func (m *model) find(key uint64) (string, int) {
	for name, list := range m.queues {
		for i, e := range list {
			if e.key == key {
				return name, i
			}
		}
	}
	return policy.Miss, 0
}

func (m *model) cached(key uint64) bool {
	name, _ := m.find(key)
	return m.kinds[name] == "queue"
}

func (m *model) access(key uint64) (bool, []uint64, error) {
	queues, vars := map[string][]entry{}, maps.Clone(m.vars)
	for name, list := range m.queues {
		queues[name] = slices.Clone(list)
	}
	m.key, m.evicted, m.failed = key, nil, nil
	hit := m.cached(key)
	event, _ := m.find(key)
	for _, rule := range m.policy.Rules {
		if rule.Event.Text == event {
			m.block(rule.Block)
		}
	}
	if m.failed != nil {
		m.queues, m.vars = queues, vars
		return false, nil, m.failed
	}
	return hit, m.evicted, nil
}

func (m *model) remove(key uint64) bool {
	name, _ := m.find(key)
	if name != policy.Miss {
		m.take(key)
	}
	return name != policy.Miss
}

// take takes a key's entry out of its queue, or makes a new one.
func (m *model) take(key uint64) entry {
	name, i := m.find(key)
	if name == policy.Miss {
		return entry{key: key}
	}
	e := m.queues[name][i]
	m.queues[name] = slices.Delete(m.queues[name], i, i+1)
	return e
}

func (m *model) bring(key uint64, to string, tail bool) {
	if was := m.cached(key); was && m.kinds[to] == "ghost" {
		m.evicted = append(m.evicted, key)
	}
	e := m.take(key)
	if len(m.queues[to]) == m.numbers[to] {
		m.failed = ErrFull
	}
	at := 0
	if tail {
		at = len(m.queues[to])
	}
	m.queues[to] = slices.Insert(m.queues[to], at, e)
}

func (m *model) forget(key uint64) {
	if m.cached(key) {
		m.evicted = append(m.evicted, key)
	}
	m.take(key)
}

func (m *model) freq(key uint64, by int) {
	if name, i := m.find(key); name != policy.Miss {
		e := &m.queues[name][i]
		e.freq += by
		if e.freq < 0 {
			e.freq = 0
		}
		if e.freq > m.numbers["freq"] {
			e.freq = m.numbers["freq"]
		}
	}
}

func (m *model) block(stmts []policy.Stmt) {
	for _, s := range stmts {
		if m.failed != nil {
			return
		}
		m.stmt(s)
	}
}

func (m *model) stmt(s policy.Stmt) {
	v := s.Name.Text
	switch s.Word {
	case "put":
		m.bring(m.key, v, s.Tail)
	case "drop":
		m.forget(m.key)
	case "inc":
		if m.vars[v] < m.numbers[v] {
			m.vars[v]++
		}
	case "dec":
		if m.vars[v] > 0 {
			m.vars[v]--
		}
	case "bump":
		m.freq(m.key, 1)
	case "if":
		if m.cond(s.Cond) {
			m.block(s.Then)
		} else {
			m.block(s.Else)
		}
	case "repeat":
		for i := 0; i < s.Times.Value && m.failed == nil && m.cond(s.Cond); i++ {
			m.block(s.Then)
		}
	default:
		m.atTail(s)
	}
}

func (m *model) atTail(s policy.Stmt) {
	list := m.queues[s.Name.Text]
	if len(list) == 0 {
		m.failed = ErrEmpty
		return
	}
	key := list[len(list)-1].key
	switch s.Word {
	case "evict":
		m.forget(key)
	case "shift":
		m.bring(key, s.To.Text, s.Tail)
	case "cool":
		m.freq(key, -1)
	}
}

func (m *model) cond(c policy.Cond) bool {
	list := m.queues[c.Queue.Text]
	so := false
	switch c.Word {
	case "full":
		so = len(list) == m.numbers[c.Queue.Text]
	case "empty":
		so = len(list) == 0
	case "warm":
		so = len(list) > 0 && list[len(list)-1].freq > 0
	case "<":
		so = m.value(c.Left) < m.value(c.Right)
	}
	return so != c.Not
}

func (m *model) value(v policy.Value) int {
	switch v.Kind {
	case policy.OfVar:
		return m.vars[v.Name.Text]
	case policy.OfLen:
		return len(m.queues[v.Name.Text])
	case policy.OfFreq:
		if name, i := m.find(m.key); name != policy.Miss {
			return m.queues[name][i].freq
		}
		return 0
	}
	return v.Number.Value
}

// show answers the state in the words of the machine's.
func (m *model) show() string {
	var b strings.Builder
	vars := "vars"
	for _, d := range m.policy.Decls {
		name := d.Name.Text
		switch d.Word {
		case "queue", "ghost":
			b.WriteString(name)
			for _, e := range m.queues[name] {
				b.WriteString(" " + strconv.FormatUint(e.key, 10) + ":" + strconv.Itoa(e.freq))
			}
			b.WriteString("; ")
		case "var":
			vars += " " + strconv.Itoa(m.vars[name])
		}
	}
	return b.String() + vars
}

// maker makes up policies of the queues a, b, c, d and the variables v and w.
type maker struct {
	*rand.Rand
	strings.Builder
}

func (m *maker) pick(words ...string) string { return words[m.IntN(len(words))] }

func (m *maker) queue() string { return m.pick("a", "b", "c", "d") }

func (m *maker) number(most int) string { return strconv.Itoa(1 + m.IntN(most)) }

func (m *maker) policy() string {
	m.Reset()
	for _, name := range []string{"a", "v", "b", "c", "w", "d"} {
		word := "var"
		if name < "v" {
			word = m.pick("queue", "queue", "ghost")
		}
		m.WriteString(word + " " + name + " " + m.number(3) + "; ")
	}
	if m.IntN(4) > 0 {
		m.WriteString("freq " + m.number(3) + "; ")
	}
	for _, event := range []string{"a", "b", "c", "d"} {
		if m.IntN(4) > 0 {
			m.WriteString("on " + event + " ")
			m.block(1, 0)
		}
	}
	m.WriteString("on miss { ")
	if m.IntN(3) > 0 { // else a made-up policy seldom has a key to hit
		m.guarded()
	}
	m.stmt(1, 0)
	m.WriteString("}")
	return m.String()
}

func (m *maker) block(blocks, loops int) {
	m.WriteString("{ ")
	for range 1 + m.IntN(3) {
		m.stmt(blocks, loops)
	}
	m.WriteString("} ")
}

func (m *maker) stmt(blocks, loops int) {
	switch kind := m.IntN(12); {
	case kind < 2 && blocks < api.MaxDepth:
		m.WriteString("if " + m.cond() + " ")
		m.block(blocks+1, loops)
		if m.IntN(2) == 0 {
			m.WriteString("else ")
			m.block(blocks+1, loops)
		}
	case kind < 4 && blocks < api.MaxDepth && loops < api.MaxLoops:
		m.WriteString("repeat " + m.number(5) + " while " + m.cond() + " ")
		m.block(blocks+1, loops+1)
	case kind < 6:
		m.WriteString(m.pick("inc v; ", "dec v; ", "inc w; ", "dec w; ", "bump; ", "bump; ", "drop; "))
	case kind < 9 && blocks < api.MaxDepth:
		m.guarded()
	default:
		m.WriteString(m.move(m.queue(), m.queue()))
	}
}

// guarded writes a statement that comes to no error more often than one made up alone.
func (m *maker) guarded() {
	from, to := m.queue(), m.queue()
	switch m.IntN(4) {
	default:
		m.WriteString("if full " + to + " { evict " + to + "; } put " + to + m.pick("", " tail") + "; ")
	case 1:
		m.WriteString("if not empty " + from + " { " + m.move(from, to) + "} ")
	case 2:
		m.WriteString("if full " + to + " { shift " + to + " " + from + "; } put " + to + "; ")
	}
}

func (m *maker) move(from, to string) string {
	switch m.IntN(5) {
	case 0:
		return "evict " + from + "; "
	case 1:
		return "cool " + from + "; "
	case 2:
		return "put " + to + m.pick("", " tail") + "; "
	}
	return "shift " + from + " " + to + m.pick("", " tail") + "; "
}

func (m *maker) cond() string {
	not := m.pick("", "", "not ", "not not ")
	if m.IntN(2) == 0 {
		return not + m.pick("full ", "empty ", "warm ") + m.queue()
	}
	return not + m.value() + " < " + m.value()
}

func (m *maker) value() string {
	return m.pick(strconv.Itoa(m.IntN(4)), "v", "w", "len "+m.queue(), "freq")
}

// key picks one of a few, the least and the greatest among them.
func (m *maker) key() uint64 {
	return []uint64{0, 1, 2, 3, 4, 1 << 32, 1 << 63, math.MaxUint64}[m.IntN(8)]
}

// tally counts what the made-up calls came to, lest they come to nothing.
type tally struct {
	hits, evicted, full, empty, plain, removed int
}

func (c *tally) add(hit bool, evicted []uint64, err error) {
	switch {
	case errors.Is(err, ErrFull):
		c.full++
	case errors.Is(err, ErrEmpty):
		c.empty++
	case hit:
		c.hits++
	default:
		c.plain++
	}
	c.evicted += len(evicted)
}

// tryPolicy holds the machine of a policy against its model, call by call.
func tryPolicy(t *testing.T, src string, m *maker, counts *tally) {
	t.Helper()
	p, err := policy.Read(src)
	if err != nil {
		t.Fatalf("Read(%q): %v", src, err)
	}
	machine, plain := New(p), newModel(p)
	for range 60 {
		key := m.key()
		if m.IntN(10) == 0 {
			ok := machine.Remove(key)
			if ok != plain.remove(key) {
				t.Fatalf("%q: Remove(%d) = %v", src, key, ok)
			}
			if ok {
				counts.removed++
			}
		} else {
			hit, evicted, err := machine.Access(key)
			wantHit, wantEvicted, wantErr := plain.access(key)
			if hit != wantHit || !slices.Equal(evicted, wantEvicted) || wantErr == nil && err != nil || !errors.Is(err, wantErr) {
				t.Fatalf("%q: Access(%d) = %v, %v, %v, want %v, %v, %v", src, key, hit, evicted, err, wantHit, wantEvicted, wantErr)
			}
			counts.add(hit, evicted, err)
		}
		if got, want := show(t, machine), plain.show(); got != want {
			t.Fatalf("%q: behind %d:\n got %s\nwant %s", src, key, got, want)
		}
		checkArena(t, machine.state.arena)
	}
}

func TestP4MadeUpPolicies(t *testing.T) {
	m := &maker{Rand: rand.New(rand.NewPCG(5, 6))}
	counts := &tally{}
	for range 4000 {
		if src := m.policy(); len(src) <= api.MaxText {
			tryPolicy(t, src, m, counts)
		}
	}
	for _, count := range []int{counts.hits, counts.evicted, counts.full, counts.empty, counts.plain, counts.removed} {
		if count < 1000 {
			t.Errorf("too few of one kind: %+v", *counts)
		}
	}
	t.Logf("%+v", *counts)
}
