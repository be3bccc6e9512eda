package policy

import (
	"errors"
	"reflect"
	"testing"
)

func TestReadDeclarations(t *testing.T) {
	const src = "queue r 007; ghost g 50; freq 3; var v 99; on miss { }"
	p, err := Read(src)
	if err != nil {
		t.Fatal(err)
	}
	want := &Policy{
		Decls: []Decl{
			{Word: "queue", At: 0, Name: Name{"r", 6}, Number: Number{7, 8}},
			{Word: "ghost", At: 13, Name: Name{"g", 19}, Number: Number{50, 21}},
			{Word: "freq", At: 25, Number: Number{3, 30}},
			{Word: "var", At: 33, Name: Name{"v", 37}, Number: Number{99, 39}},
		},
		Rules: []Rule{{At: 43, Event: Name{Miss, 46}}},
	}
	if !reflect.DeepEqual(p, want) {
		t.Errorf("Read(%q) = %+v, want %+v", src, p, want)
	}
}

// readBlock answers the statements of a rule of a policy that declares r, s and v.
func readBlock(t *testing.T, stmts string) []Stmt {
	t.Helper()
	p, err := Read("queue r 1; ghost s 1; var v 1; on miss { } on r {" + stmts + "}")
	if err != nil {
		t.Fatal(stmts, err)
	}
	return p.Rules[1].Block
}

// bare takes the places off, so that only what was read is compared.
func bare(stmts []Stmt) []Stmt {
	var out []Stmt
	for _, s := range stmts {
		s.Name.At, s.To.At, s.Times.At = 0, 0, 0
		s.Cond.Queue.At = 0
		for _, v := range []*Value{&s.Cond.Left, &s.Cond.Right} {
			v.Name.At, v.Number.At = 0, 0
		}
		s.Then, s.Else = bare(s.Then), bare(s.Else)
		out = append(out, s)
	}
	return out
}

func TestReadStatements(t *testing.T) {
	r, s, v := Name{Text: "r"}, Name{Text: "s"}, Name{Text: "v"}
	for _, c := range []struct {
		src  string
		want []Stmt
	}{
		{"", nil},
		{"put r; put s tail;", []Stmt{{Word: "put", Name: r}, {Word: "put", Name: s, Tail: true}}},
		{"evict r; cool s;", []Stmt{{Word: "evict", Name: r}, {Word: "cool", Name: s}}},
		{"shift r s; shift s r tail;", []Stmt{{Word: "shift", Name: r, To: s}, {Word: "shift", Name: s, To: r, Tail: true}}},
		{"drop; bump; inc v; dec v;", []Stmt{{Word: "drop"}, {Word: "bump"}, {Word: "inc", Name: v}, {Word: "dec", Name: v}}},
		{"if full r { drop; }", []Stmt{{Word: "if", Cond: Cond{Word: "full", Queue: r}, Then: []Stmt{{Word: "drop"}}}}},
		{"if not empty r { } else { bump; }", []Stmt{{Word: "if", Cond: Cond{Not: true, Word: "empty", Queue: r}, HasElse: true, Else: []Stmt{{Word: "bump"}}}}},
		{"if not not warm s { } else { }", []Stmt{{Word: "if", Cond: Cond{Word: "warm", Queue: s}, HasElse: true}}},
		{"if not not not 020 < v { }", []Stmt{{Word: "if", Cond: Cond{Not: true, Word: "<", Left: Value{Number: Number{Value: 20}}, Right: Value{Kind: OfVar, Name: v}}}}},
		{"repeat 9 while len r < freq { bump; }", []Stmt{{Word: "repeat", Times: Number{Value: 9}, Cond: Cond{Word: "<", Left: Value{Kind: OfLen, Name: r}, Right: Value{Kind: OfFreq}}, Then: []Stmt{{Word: "bump"}}}}},
	} {
		if got := bare(readBlock(t, c.src)); !reflect.DeepEqual(got, c.want) {
			t.Errorf("%q: got %+v, want %+v", c.src, got, c.want)
		}
	}
}

func TestReadTellsFaults(t *testing.T) {
	for _, c := range []struct {
		src  string
		want error
		at   int
	}{
		{"queue r 1", ErrSyntax, 9},
		{"queue r 0; on miss { }", ErrNumber, 8},
		{"queue r 1;", ErrMiss, 0},
	} {
		p, err := Read(c.src)
		var fault *Fault
		if p != nil || !errors.Is(err, c.want) || !errors.As(err, &fault) || fault.At != c.at {
			t.Errorf("Read(%q) = %v, %v, want %v, at %d", c.src, p, err, c.want, c.at)
		}
	}
}

func TestFaultTellsItsPlace(t *testing.T) {
	fault := &Fault{Err: ErrMiss, At: 12}
	if got, want := fault.Error(), "there is no rule for miss, at 12"; got != want {
		t.Errorf("got %q, want %q", got, want)
	}
}
