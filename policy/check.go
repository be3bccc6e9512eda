package policy

import "evictor/api"

// checker goes through a policy in the order of its text, so that the first fault it meets is the one to tell.
type checker struct {
	names map[string]nameKind
	freqs int
	rules map[string]int // how many, by event
	first error
}

type nameKind int

const (
	queueName nameKind = iota // a ghost's too
	varName
)

// check tells what is wrong with a policy that has been read.
func check(p *Policy) error {
	c := &checker{names: map[string]nameKind{}, rules: map[string]int{}}
	for _, d := range p.Decls {
		c.decl(d)
	}
	for _, rule := range p.Rules {
		c.rule(rule)
	}
	if c.rules[Miss] == 0 {
		c.fault(ErrMiss, 0)
	}
	return c.first
}

func (c *checker) fault(err error, at int) {
	if c.first == nil {
		c.first = &Fault{Err: err, At: at}
	}
}

func (c *checker) decl(d Decl) {
	switch d.Word {
	case "queue", "ghost":
		c.declare(d.Name, queueName)
		c.bound(d.Number, api.MaxCap)
	case "var":
		c.declare(d.Name, varName)
		c.bound(d.Number, api.MaxValue)
	case "freq":
		c.freqs++
		if c.freqs > 1 {
			c.fault(ErrTwice, d.At)
		}
		c.bound(d.Number, api.MaxValue)
	}
}

func (c *checker) declare(n Name, kind nameKind) {
	_, known := c.names[n.Text]
	switch {
	case known:
		c.fault(ErrTwice, n.At)
	case len(c.names) == api.MaxNames:
		c.fault(ErrMany, n.At)
	default:
		c.names[n.Text] = kind
	}
}

func (c *checker) bound(n Number, most int) {
	if n.Value < 1 || n.Value > most {
		c.fault(ErrNumber, n.At)
	}
}

func (c *checker) rule(r Rule) {
	c.rules[r.Event.Text]++
	if c.rules[r.Event.Text] > 1 {
		c.fault(ErrRule, r.At)
	}
	if r.Event.Text != Miss {
		c.use(r.Event, queueName)
	}
	c.block(r.Block)
}

func (c *checker) use(n Name, kind nameKind) {
	declared, known := c.names[n.Text]
	switch {
	case !known:
		c.fault(ErrNone, n.At)
	case declared != kind:
		c.fault(ErrKind, n.At)
	}
}

func (c *checker) block(stmts []Stmt) {
	for _, s := range stmts {
		c.stmt(s)
	}
}

func (c *checker) stmt(s Stmt) {
	switch s.Word {
	case "put", "evict", "cool":
		c.use(s.Name, queueName)
	case "shift":
		c.use(s.Name, queueName)
		c.use(s.To, queueName)
	case "inc", "dec":
		c.use(s.Name, varName)
	case "if":
		c.cond(s.Cond)
		c.block(s.Then)
		c.block(s.Else)
	case "repeat":
		c.bound(s.Times, api.MaxRepeat)
		c.cond(s.Cond)
		c.block(s.Then)
	}
}

func (c *checker) cond(x Cond) {
	if x.Word != "<" {
		c.use(x.Queue, queueName)
		return
	}
	c.value(x.Left)
	c.value(x.Right)
}

func (c *checker) value(v Value) {
	switch v.Kind {
	case OfVar:
		c.use(v.Name, varName)
	case OfLen:
		c.use(v.Name, queueName)
	}
}
