package policy

import (
	"strconv"
	"strings"
)

// writer lays out tokens on lines, all in one way.
type writer struct {
	text   strings.Builder
	inLine bool // a token stands on the line already
}

// Text answers the policy in one way, however its text was laid out and its declarations and rules were mixed.
func (p *Policy) Text() string {
	w := &writer{}
	w.decls(p.Decls, false)
	w.decls(p.Decls, true)
	// A variable's name, and that of freq, is no rule's event.
	for _, d := range p.Decls {
		w.rulesFor(p.Rules, d.Name.Text)
	}
	w.rulesFor(p.Rules, Miss)
	return w.text.String()
}

func (w *writer) tokens(texts ...string) {
	for _, text := range texts {
		if w.inLine && text != ";" {
			w.text.WriteByte(' ')
		}
		w.text.WriteString(text)
		w.inLine = true
	}
}

func (w *writer) endLine() {
	w.text.WriteByte('\n')
	w.inLine = false
}

// decls writes the declarations of freq, or all others.
func (w *writer) decls(decls []Decl, ofFreq bool) {
	for _, d := range decls {
		if (d.Word == "freq") == ofFreq {
			w.decl(d)
		}
	}
}

func (w *writer) decl(d Decl) {
	w.tokens(d.Word)
	if d.Word != "freq" {
		w.tokens(d.Name.Text)
	}
	w.tokens(d.Number.text(), ";")
	w.endLine()
}

func (w *writer) rulesFor(rules []Rule, event string) {
	for _, r := range rules {
		if r.Event.Text == event {
			w.tokens("on", event)
			w.block(r.Block)
			w.endLine()
		}
	}
}

func (w *writer) block(stmts []Stmt) {
	w.tokens("{")
	for _, s := range stmts {
		w.stmt(s)
	}
	w.tokens("}")
}

func (w *writer) stmt(s Stmt) {
	w.tokens(s.Word)
	switch s.Word {
	case "if":
		w.branches(s)
	case "repeat":
		w.loop(s)
	default:
		w.restOfPlain(s)
	}
}

func (w *writer) branches(s Stmt) {
	w.cond(s.Cond)
	w.block(s.Then)
	if s.HasElse {
		w.tokens("else")
		w.block(s.Else)
	}
}

func (w *writer) loop(s Stmt) {
	w.tokens(s.Times.text(), "while")
	w.cond(s.Cond)
	w.block(s.Then)
}

// restOfPlain writes what stands behind the word of a statement that has no blocks.
func (w *writer) restOfPlain(s Stmt) {
	for _, name := range []Name{s.Name, s.To} {
		if name.Text != "" {
			w.tokens(name.Text)
		}
	}
	if s.Tail {
		w.tokens("tail")
	}
	w.tokens(";")
}

func (w *writer) cond(c Cond) {
	if c.Not {
		w.tokens("not")
	}
	if c.Word != "<" {
		w.tokens(c.Word, c.Queue.Text)
		return
	}
	w.value(c.Left)
	w.tokens("<")
	w.value(c.Right)
}

func (w *writer) value(v Value) {
	switch v.Kind {
	case OfNumber:
		w.tokens(v.Number.text())
	case OfVar:
		w.tokens(v.Name.Text)
	case OfLen:
		w.tokens("len", v.Name.Text)
	case OfFreq:
		w.tokens("freq")
	}
}

func (n Number) text() string { return strconv.Itoa(n.Value) }
