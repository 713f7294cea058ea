package checks_test

import (
	"testing"

	"earshot/api"
	"earshot/checks"
)

func TestFirst(t *testing.T) {
	for _, c := range []struct {
		list []api.Errno
		want api.Errno
	}{
		{nil, api.OK}, {[]api.Errno{api.OK}, api.OK}, {[]api.Errno{api.OK, api.ErrArg, api.OK}, api.ErrArg}, {[]api.Errno{api.ErrArg, api.ErrLong, api.ErrArg}, api.ErrLong}, {[]api.Errno{api.ErrLong, api.OK}, api.ErrLong},
	} {
		if got := checks.First(c.list...); got != c.want {
			t.Errorf("%v: %d", c.list, got)
		}
	}
	longer := []api.Errno{api.ErrArg, api.ErrLong}
	if checks.First(longer[:1]...) != api.ErrArg || longer[1] != api.ErrLong {
		t.Error("First changes its arguments")
	}
}

func TestSingle(t *testing.T) {
	if checks.Argument(true) != api.OK || checks.Argument(false) != api.ErrArg {
		t.Error("Argument")
	}
	if checks.Length(2, 2) != api.OK || checks.Length(3, 2) != api.ErrLong || checks.Length(0, 2) != api.OK {
		t.Error("Length")
	}
}
