package syntax

import (
	"errors"
	"strconv"

	"deduce/api"
)

var (
	errLong = errors.New("too long")
	errText = errors.New("not what may stand there")
	errMany = errors.New("too many")
)

// placed is an error and the place where it was met.
type placed struct {
	err error
	at  int
}

func (p placed) Error() string { return p.err.Error() + ", at byte " + strconv.Itoa(p.at) }

func (p placed) Unwrap() error { return p.err }

// tell answers an error as a call tells it; one without a place is at 0.
func tell(err error) (api.Errno, int) {
	at := 0
	var p placed
	if errors.As(err, &p) {
		at = p.at
	}
	switch {
	case errors.Is(err, errLong):
		return api.ErrLong, at
	case errors.Is(err, errText):
		return api.ErrText, at
	case errors.Is(err, errMany):
		return api.ErrMany, at
	}
	return api.OK, 0
}
