package types

import (
	"errors"
	"strconv"

	"pointsman/api"
)

// fault is what may not be. It leaves all that is being gone through by a panic, however deep within that it is found.
type fault struct {
	number api.Errno
	line   int
}

func (f fault) Error() string { return f.number.Error() + " in line " + strconv.Itoa(f.line) }

func must(ok bool, number api.Errno, line int) {
	if !ok {
		panic(fault{number, line})
	}
}

// caught tells the fault by which something is left, if there is one.
func caught(do func()) (line int, e api.Errno) {
	defer func() {
		if left := recover(); left != nil {
			line, e = told(left)
		}
	}()
	do()
	return 0, api.OK
}

func told(left any) (int, api.Errno) {
	var f fault
	if err, ok := left.(error); ok && errors.As(err, &f) {
		return f.line, f.number
	}
	// Nothing but a fault is known to leave; no call may panic nonetheless.
	return 0, api.ErrArg
}
