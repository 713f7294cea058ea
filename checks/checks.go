// Package checks finds the error that a function returns, for layers of which each returns ErrLong before ErrArg.
package checks

import "earshot/api"

// First returns that one of some errors which comes first, or OK. It is the one with the greatest number: ErrLong, then ErrArg.
func First(list ...api.Errno) api.Errno {
	e := api.OK
	for _, x := range list {
		e = max(e, x)
	}
	return e
}

// Argument returns ErrArg if an argument is not as it has to be.
func Argument(fits bool) api.Errno {
	if fits {
		return api.OK
	}
	return api.ErrArg
}

// Length returns ErrLong if there is more than there may be.
func Length(n, most int) api.Errno {
	if n <= most {
		return api.OK
	}
	return api.ErrLong
}
