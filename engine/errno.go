package engine

import (
	"errors"

	"evictor/api"
	"evictor/machine"
	"evictor/policy"
)

// errno answers the number of what is wrong with a policy, with a step of it, or with a name that is asked for.
func errno(err error) api.Errno {
	switch {
	case errors.Is(err, policy.ErrLong):
		return api.ErrLong
	case errors.Is(err, policy.ErrDeep):
		return api.ErrDeep
	case errors.Is(err, policy.ErrTwice):
		return api.ErrTwice
	case errors.Is(err, policy.ErrNone):
		return api.ErrNone
	case errors.Is(err, policy.ErrKind):
		return api.ErrKind
	case errors.Is(err, policy.ErrNumber):
		return api.ErrNumber
	case errors.Is(err, policy.ErrRule):
		return api.ErrRule
	case errors.Is(err, policy.ErrMany):
		return api.ErrMany
	case errors.Is(err, policy.ErrMiss):
		return api.ErrMiss
	case errors.Is(err, machine.ErrFull):
		return api.ErrFull
	case errors.Is(err, machine.ErrEmpty):
		return api.ErrEmpty
	case errors.Is(err, machine.ErrName):
		return api.ErrName
	}
	// The only one left; and no error may ever answer OK.
	return api.ErrSyntax
}

// place answers where in the text an error is.
func place(err error) int {
	var fault *policy.Fault
	if errors.As(err, &fault) {
		return fault.At
	}
	return 0
}
