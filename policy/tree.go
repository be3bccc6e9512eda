// Package policy reads the text of a policy into a tree, tells what is wrong with it, and where, and writes a tree as the one text of it.
package policy

// Miss is the event of a rule for keys that stand in no queue; as a keyword it is no queue's name.
const Miss = "miss"

// Policy is what a text says, in the order of the text.
type Policy struct {
	Decls []Decl
	Rules []Rule
}

// Decl declares a name, or the greatest frequency, which has none.
type Decl struct {
	Word   string // queue, ghost, var or freq
	At     int
	Name   Name
	Number Number
}

// Rule says what is done at an event: for a key in the queue of that name, or at a Miss.
type Rule struct {
	At    int
	Event Name
	Block []Stmt
}

// Stmt is a statement; the fields that its word has no use for are zero.
type Stmt struct {
	Word    string // the keyword at its beginning
	Name    Name
	To      Name // the queue to which shift brings an entry
	Tail    bool
	Times   Number
	Cond    Cond
	Then    []Stmt
	HasElse bool // an empty Else is not the same text as none
	Else    []Stmt
}

// Cond is a condition: of a queue, or of two values.
type Cond struct {
	Not         bool   // whether its nots are of an odd number
	Word        string // full, empty, warm or <
	Queue       Name
	Left, Right Value
}

// ValueKind says where a value comes from.
type ValueKind int

// The kinds of values.
const (
	OfNumber ValueKind = iota
	OfVar
	OfLen
	OfFreq
)

// Value is one side of a comparison.
type Value struct {
	Kind   ValueKind
	Name   Name // the variable, or the queue whose length it is
	Number Number
}

// Name is a name and its place.
type Name struct {
	Text string
	At   int
}

// Number is a number and its place.
type Number struct {
	Value, At int
}
