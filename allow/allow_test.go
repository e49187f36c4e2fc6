package allow

import (
	"testing"

	"emender/api"
	"emender/flat"
	"emender/schema"
)

func TestDo(t *testing.T) {
	c := schema.House()
	x := []api.Token{{N: 'x'}}
	l := []api.Token{{K: api.TOpen, T: api.Para}, {K: api.TClose}}
	then := []api.Token{l[0], x[0], l[1]}
	for _, one := range []struct {
		c    *schema.Schema
		l    []api.Token
		s    api.Step
		then []api.Token
		want api.Errno
	}{
		{c, l, api.Step{From: 1, To: 1, Slice: x}, then, api.OK},
		{c, l, api.Step{From: 0, To: 0, Slice: x}, nil, api.ErrValid},
		{c, l, api.Step{From: 0, To: 2}, nil, api.ErrValid},
		{c, l, api.Step{From: 0, To: 1}, nil, api.ErrForm},
		{c, l, api.Step{From: 3, To: 3}, nil, api.ErrArg},
		{c, l[:1], api.Step{}, nil, api.ErrShort},
		{nil, l, api.Step{From: 3, To: 3}, nil, api.ErrArg},
		{nil, l, api.Step{From: 1, To: 1, Slice: x}, nil, api.ErrZero},
		{new(schema.Schema), l, api.Step{From: 1, To: 1, Slice: x}, nil, api.ErrZero},
	} {
		if got, e := Do(one.c, one.l, one.s); !flat.Same(got, one.then) || e != one.want {
			t.Errorf("Do(%v, %v): %v, %d; want %v, %d", one.l, one.s, got, e, one.then, one.want)
		}
	}
}
