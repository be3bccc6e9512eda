package machine

import "evictor/policy"

// stepKind says what a step does.
type stepKind int

// Behind a full, empty, warm or less step that is not as asked, and behind a count step whose loop has had its times, the run goes on at the step's target.
const (
	putStep stepKind = iota
	evictStep
	shiftStep
	dropStep
	incStep
	decStep
	bumpStep
	coolStep
	fullStep
	emptyStep
	warmStep
	lessStep
	startStep // of a loop: its count begins anew
	countStep // of a loop: one time more
	jumpStep
)

// ref is a queue, or a variable, that is named at a place of the text.
type ref struct {
	index, at int
}

// operand is one side of a less step.
type operand struct {
	kind   policy.ValueKind
	number int // itself, or whose value or length it is
}

// step is one small thing that a rule does; the fields that its kind has no use for are zero.
type step struct {
	kind        stepKind
	on, to      ref
	tail        bool
	not         bool
	left, right operand
	loop, times int
	target      int
}

// program is what a policy says, made ready to be run. A run does not change it.
type program struct {
	queues   []string // names, by the queue's number
	ghosts   []bool   // by the queue's number
	rooms    []int    // by the queue's number
	vars     []string // names, by the variable's number
	most     []int    // by the variable's number
	mostFreq int
	rules    map[string][]step
}

// compiler makes one rule after the other into steps.
type compiler struct {
	program program
	index   map[string]int // a name's number among the queues, or among the variables
	steps   []step
	loops   int // in the blocks of how many it is
}

func compile(p *policy.Policy) program {
	c := &compiler{index: map[string]int{}}
	c.program.rules = map[string][]step{}
	for _, d := range p.Decls {
		c.decl(d)
	}
	for _, rule := range p.Rules {
		c.steps = nil
		c.block(rule.Block)
		c.program.rules[rule.Event.Text] = c.steps
	}
	return c.program
}

func (c *compiler) decl(d policy.Decl) {
	p := &c.program
	switch d.Word {
	case "queue", "ghost":
		c.index[d.Name.Text] = len(p.rooms)
		p.queues = append(p.queues, d.Name.Text)
		p.ghosts = append(p.ghosts, d.Word == "ghost")
		p.rooms = append(p.rooms, d.Number.Value)
	case "var":
		c.index[d.Name.Text] = len(p.most)
		p.vars = append(p.vars, d.Name.Text)
		p.most = append(p.most, d.Number.Value)
	case "freq":
		p.mostFreq = d.Number.Value
	}
}

// add answers the new step's number.
func (c *compiler) add(s step) int {
	c.steps = append(c.steps, s)
	return len(c.steps) - 1
}

// land makes the next step that is added the target of an earlier one.
func (c *compiler) land(n int) {
	c.steps[n].target = len(c.steps)
}

func (c *compiler) ref(n policy.Name) ref {
	return ref{index: c.index[n.Text], at: n.At}
}

func (c *compiler) block(stmts []policy.Stmt) {
	for _, s := range stmts {
		c.stmt(s)
	}
}

func (c *compiler) stmt(s policy.Stmt) {
	switch s.Word {
	case "if":
		c.ifStmt(s)
	case "repeat":
		c.repeatStmt(s)
	default:
		c.add(step{kind: kindOf(s.Word), on: c.ref(s.Name), to: c.ref(s.To), tail: s.Tail})
	}
}

func (c *compiler) ifStmt(s policy.Stmt) {
	test := c.test(s.Cond)
	c.block(s.Then)
	over := c.add(step{kind: jumpStep})
	c.land(test)
	c.block(s.Else)
	c.land(over)
}

func (c *compiler) repeatStmt(s policy.Stmt) {
	// Loops beside each other may share a count, those within each other may not.
	loop := c.loops
	c.add(step{kind: startStep, loop: loop, times: s.Times.Value})
	count := c.add(step{kind: countStep, loop: loop})
	test := c.test(s.Cond)
	c.loops++
	c.block(s.Then)
	c.loops--
	c.add(step{kind: jumpStep, target: count})
	c.land(count)
	c.land(test)
}

func (c *compiler) test(x policy.Cond) int {
	return c.add(step{
		kind:  kindOf(x.Word),
		on:    c.ref(x.Queue),
		not:   x.Not,
		left:  c.operand(x.Left),
		right: c.operand(x.Right),
	})
}

func (c *compiler) operand(v policy.Value) operand {
	number := v.Number.Value
	if v.Kind == policy.OfVar || v.Kind == policy.OfLen {
		number = c.index[v.Name.Text]
	}
	return operand{kind: v.Kind, number: number}
}

// kindOf answers the kind of the step for a statement or condition of that word.
func kindOf(word string) stepKind {
	switch word {
	case "put":
		return putStep
	case "evict":
		return evictStep
	case "shift":
		return shiftStep
	case "drop":
		return dropStep
	case "inc":
		return incStep
	case "dec":
		return decStep
	case "bump":
		return bumpStep
	case "cool":
		return coolStep
	case "full":
		return fullStep
	case "empty":
		return emptyStep
	case "warm":
		return warmStep
	}
	return lessStep
}
