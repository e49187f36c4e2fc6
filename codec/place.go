package codec

import (
	"emender/api"
	"emender/quad"
)

// place is where in the bytes reading has come to. What is not there, or can't be, leaves by a panic with its Errno.
type place struct {
	bytes []byte
	at    int
}

// number passes a number of at most most.
func (p *place) number(most int) int {
	n, next, e := quad.Get(p.bytes, p.at)
	if e != api.OK {
		panic(e)
	}
	if n > uint64(most) {
		panic(api.ErrForm)
	}
	p.at = next
	return int(n)
}

// take passes n bytes; they still are those that are read.
func (p *place) take(n int) []byte {
	if n > len(p.bytes)-p.at {
		panic(api.ErrShort)
	}
	p.at += n
	return p.bytes[p.at-n : p.at]
}
