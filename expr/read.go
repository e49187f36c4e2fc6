package expr

import (
	"errors"
	"strconv"
	"strings"

	"emender/api"
)

// signs are what stands behind a part, in the order of their kinds from EStar on.
const signs = "*+?"

// refusal wraps an error with the place where a text is refused.
type refusal struct {
	at  int
	err error
}

func (r refusal) Error() string { return r.err.Error() + " at " + strconv.Itoa(r.at) }

func (r refusal) Unwrap() error { return r.err }

// told answers the place and the number of what err wraps.
func told(err error) (int, api.Errno) {
	var where refusal
	var number api.Errno
	if !errors.As(err, &where) || !errors.As(err, &number) {
		return 0, api.ErrForm
	}
	return where.at, number
}

// read answers the tree of s.
func read(s string) (api.Expr, error) {
	if len(s) > api.MaxExpr {
		return api.Expr{}, refusal{0, api.ErrLong}
	}
	r := reader{text: s}
	e, err := r.whole()
	if err != nil {
		return api.Expr{}, err
	}
	if Check(e) != api.OK {
		return api.Expr{}, refusal{0, api.ErrForm}
	}
	return e, nil
}

// reader reads a text from at on. Blanks behind what is read are passed with it, so that at is never at one.
type reader struct {
	text string
	at   int
}

// refuse tells that what stands at the reader's place, or that nothing stands there, can't be.
func (r *reader) refuse() error {
	return refusal{r.at, api.ErrForm}
}

// peek answers the byte at the reader's place, or 0, which no text has, at the end.
func (r *reader) peek() byte {
	if r.at == len(r.text) {
		return 0
	}
	return r.text[r.at]
}

// pass goes over n bytes, and over the blanks behind them.
func (r *reader) pass(n int) {
	r.at += n
	for r.peek() == ' ' {
		r.at++
	}
}

func (r *reader) whole() (api.Expr, error) {
	r.pass(0)
	if r.at == len(r.text) {
		return api.Expr{}, nil
	}
	e, err := r.choices()
	if err == nil && r.at < len(r.text) {
		err = r.refuse()
	}
	return e, err
}

func (r *reader) choices() (api.Expr, error) {
	return row(api.EAlt, r.parts, r.passBar)
}

func (r *reader) parts() (api.Expr, error) {
	return row(api.ESeq, r.part, r.atPart)
}

// row reads one thing after the other by next, while more tells that another has to follow.
func row(kind int, next func() (api.Expr, error), more func() bool) (api.Expr, error) {
	var l []api.Expr
	for again := true; again; again = more() {
		e, err := next()
		if err != nil {
			return api.Expr{}, err
		}
		if e.K == kind {
			l = append(l, e.L...)
		} else {
			l = append(l, e)
		}
	}
	if len(l) == 1 {
		return l[0], nil
	}
	return api.Expr{K: kind, L: l}, nil
}

func (r *reader) passBar() bool {
	if r.peek() != '|' {
		return false
	}
	r.pass(1)
	return true
}

func (r *reader) atPart() bool {
	return isLetter(r.peek()) || r.peek() == '('
}

// part reads a name or brackets, with the signs behind.
func (r *reader) part() (api.Expr, error) {
	e, err := r.bare()
	if err != nil {
		return api.Expr{}, err
	}
	for {
		sign := strings.IndexByte(signs, r.peek())
		if sign < 0 {
			return e, nil
		}
		e = api.Expr{K: api.EStar + sign, L: []api.Expr{e}}
		r.pass(1)
	}
}

func (r *reader) bare() (api.Expr, error) {
	switch {
	case isLetter(r.peek()):
		return r.name(), nil
	case r.peek() == '(':
		return r.brackets()
	}
	return api.Expr{}, r.refuse()
}

func (r *reader) name() api.Expr {
	n := nameLen(r.text[r.at:])
	name := strings.Clone(r.text[r.at : r.at+n]) // the text is not kept
	r.pass(n)
	return api.Expr{K: api.EName, Name: name}
}

func (r *reader) brackets() (api.Expr, error) {
	r.pass(1)
	e, err := r.choices()
	if err != nil {
		return api.Expr{}, err
	}
	if r.peek() != ')' {
		return api.Expr{}, r.refuse()
	}
	r.pass(1)
	return e, nil
}
