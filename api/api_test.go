package api_test

import (
	"testing"

	"deduce/api"
)

func TestErrnos(t *testing.T) {
	for want, errno := range []api.Errno{
		api.OK, api.ErrLong, api.ErrText, api.ErrRange, api.ErrData, api.ErrSum, api.ErrOrder,
		api.ErrMany, api.ErrName, api.ErrArity, api.ErrSafe, api.ErrStrata, api.ErrTwice, api.ErrNone,
	} {
		if int(errno) != want {
			t.Errorf("errno %d has the number %d", want, errno)
		}
	}
}
