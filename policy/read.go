package policy

import (
	"strings"

	"evictor/api"
)

// reader goes through a text with one token ahead. It leaves by a panic with a *Fault.
type reader struct {
	src    string
	ahead  token
	blocks int // how many are open
	loops  int // in the blocks of how many it is
}

// Read answers the policy of a text, or a *Fault.
func Read(src string) (*Policy, error) {
	if len(src) > api.MaxText {
		return nil, &Fault{Err: ErrLong}
	}
	p, err := parse(src)
	if err != nil {
		return nil, err
	}
	// Only a text that is whole has the other faults, wherever they stand.
	if err := check(p); err != nil {
		return nil, err
	}
	return p, nil
}

func parse(src string) (p *Policy, err error) {
	defer func() {
		left := recover()
		if left == nil {
			return
		}
		fault, ok := left.(*Fault)
		if !ok {
			panic(left) // no way of the reader's to leave: a fault of the program, which is not to pass for one of the text
		}
		p, err = nil, fault
	}()
	// The tree is kept and holds pieces of the text, which is the caller's.
	r := &reader{src: strings.Clone(src)}
	r.ahead = tokenAt(r.src, 0)
	return r.policy(), nil
}

func (r *reader) leave(err error) {
	panic(&Fault{Err: err, At: r.ahead.at})
}

func (r *reader) step() token {
	t := r.ahead
	r.ahead = tokenAt(r.src, t.at+len(t.text))
	return t
}

// take steps over a keyword or sign, if it is the one ahead.
func (r *reader) take(text string) bool {
	if r.ahead.text != text {
		return false
	}
	r.step()
	return true
}

func (r *reader) need(text string) {
	if !r.take(text) {
		r.leave(ErrSyntax)
	}
}

func (r *reader) needKind(kind tokenKind) token {
	if r.ahead.kind != kind {
		r.leave(ErrSyntax)
	}
	return r.step()
}

func (r *reader) name() Name {
	t := r.needKind(nameToken)
	return Name{Text: t.text, At: t.at}
}

func (r *reader) number() Number {
	t := r.needKind(numberToken)
	n := Number{At: t.at}
	for i := range len(t.text) {
		n.Value = n.Value*10 + int(t.text[i]-'0')
	}
	return n
}

func (r *reader) policy() *Policy {
	p := &Policy{}
	for r.isDecl() {
		p.Decls = append(p.Decls, r.decl())
	}
	for r.ahead.text == "on" {
		p.Rules = append(p.Rules, r.rule())
	}
	r.needKind(endToken)
	return p
}

func (r *reader) isDecl() bool {
	switch r.ahead.text {
	case "queue", "ghost", "var", "freq":
		return true
	}
	return false
}

func (r *reader) decl() Decl {
	t := r.step()
	d := Decl{Word: t.text, At: t.at}
	if d.Word != "freq" {
		d.Name = r.name()
	}
	d.Number = r.number()
	r.need(";")
	return d
}

func (r *reader) rule() Rule {
	rule := Rule{At: r.step().at}
	rule.Event = r.event()
	rule.Block = r.block()
	return rule
}

func (r *reader) event() Name {
	at := r.ahead.at
	if r.take(Miss) {
		return Name{Text: Miss, At: at}
	}
	return r.name()
}

func (r *reader) block() []Stmt {
	if r.ahead.text == "{" && r.blocks == api.MaxDepth {
		r.leave(ErrDeep)
	}
	r.need("{")
	r.blocks++
	var stmts []Stmt
	for !r.take("}") {
		stmts = append(stmts, r.stmt())
	}
	r.blocks--
	return stmts
}

func (r *reader) stmt() Stmt {
	switch r.ahead.text {
	case "if":
		return r.ifStmt()
	case "repeat":
		return r.repeatStmt()
	}
	return r.plainStmt()
}

// plainStmt reads a statement that has no blocks.
func (r *reader) plainStmt() Stmt {
	s := Stmt{Word: r.ahead.text}
	switch s.Word {
	case "put":
		r.step()
		s.Name = r.name()
		s.Tail = r.take("tail")
	case "shift":
		r.step()
		s.Name = r.name()
		s.To = r.name()
		s.Tail = r.take("tail")
	case "evict", "inc", "dec", "cool":
		r.step()
		s.Name = r.name()
	case "drop", "bump":
		r.step()
	default:
		r.leave(ErrSyntax)
	}
	r.need(";")
	return s
}

func (r *reader) ifStmt() Stmt {
	s := Stmt{Word: r.step().text}
	s.Cond = r.cond()
	s.Then = r.block()
	s.HasElse = r.take("else")
	if s.HasElse {
		s.Else = r.block()
	}
	return s
}

func (r *reader) repeatStmt() Stmt {
	if r.loops == api.MaxLoops {
		r.leave(ErrDeep)
	}
	s := Stmt{Word: r.step().text}
	s.Times = r.number()
	r.need("while")
	s.Cond = r.cond()
	r.loops++
	s.Then = r.block()
	r.loops--
	return s
}

func (r *reader) cond() Cond {
	c := Cond{}
	for r.take("not") {
		c.Not = !c.Not
	}
	switch r.ahead.text {
	case "full", "empty", "warm":
		c.Word = r.step().text
		c.Queue = r.name()
	default:
		c.Left = r.value()
		c.Word = r.ahead.text
		r.need("<")
		c.Right = r.value()
	}
	return c
}

func (r *reader) value() Value {
	switch {
	case r.take("len"):
		return Value{Kind: OfLen, Name: r.name()}
	case r.take("freq"):
		return Value{Kind: OfFreq}
	case r.ahead.kind == nameToken:
		return Value{Kind: OfVar, Name: r.name()}
	}
	return Value{Kind: OfNumber, Number: r.number()}
}
