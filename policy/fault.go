package policy

import (
	"errors"
	"strconv"
)

// What may be wrong with a policy.
var (
	ErrLong   = errors.New("the text is too long")
	ErrSyntax = errors.New("this cannot stand here")
	ErrDeep   = errors.New("too many blocks or loops within each other")
	ErrTwice  = errors.New("this is declared already")
	ErrMany   = errors.New("too many names are declared")
	ErrNumber = errors.New("the number is beyond its bounds")
	ErrNone   = errors.New("the name is not declared")
	ErrKind   = errors.New("the name is of the other kind")
	ErrRule   = errors.New("there is a rule for this already")
	ErrMiss   = errors.New("there is no rule for miss")
)

// Fault is what is wrong with a policy, or with a step of it that is run, and its place in the text.
type Fault struct {
	Err error
	At  int
}

func (f *Fault) Error() string { return f.Err.Error() + ", at " + strconv.Itoa(f.At) }

// Unwrap lets errors.Is see through the place.
func (f *Fault) Unwrap() error { return f.Err }
