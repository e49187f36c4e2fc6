package script

import (
	"errors"
	"iter"
	"strconv"
	"strings"

	"emender/api"
)

// clientsElse is how many clients there are if no line tells.
const clientsElse = 2

// refusal wraps an error with the number of the line that is refused.
type refusal struct {
	line int
	err  error
}

func (r refusal) Error() string { return r.err.Error() + " in line " + strconv.Itoa(r.line) }

func (r refusal) Unwrap() error { return r.err }

// told answers the line, or 0, if it is the whole script that is refused, and the number of what err wraps.
func told(err error) (int, api.Errno) {
	var where refusal
	var e api.Errno
	errors.As(err, &where)
	errors.As(err, &e)
	return where.line, e
}

// read answers what the script s says.
func read(s string) (Plan, error) {
	if len(s) > api.MaxScript {
		return Plan{}, api.ErrLong
	}
	p := Plan{Clients: clientsElse, Disk: api.MaxDisk}
	for number, line := range lines(s) {
		if e := p.take(line); e != api.OK {
			return Plan{}, refusal{number, e}
		}
	}
	return p, nil
}

// lines goes over the lines of s and their numbers, from 1.
func lines(s string) iter.Seq2[int, string] {
	return func(yield func(int, string) bool) {
		from, number := 0, 1
		for i, sign := range s + end {
			if sign != '\n' {
				continue
			}
			if !yield(number, s[from:i]) {
				return
			}
			from, number = i+1, number+1
		}
	}
}

// take puts what a line says into the plan.
func (p *Plan) take(line string) api.Errno {
	if line == "" || strings.HasPrefix(line, "#") {
		return api.OK
	}
	if text, ok := strings.CutPrefix(line, "doc "); ok {
		return p.takeFirst(text)
	}
	word, numbers := split(line)
	ok := false
	switch word {
	case "clients":
		ok = fill(numbers, &p.Clients)
	case "disk":
		ok = fill(numbers, &p.Disk)
	default:
		ok = p.takeLine(line)
	}
	if !ok {
		return api.ErrForm
	}
	return api.OK
}

// takeLine puts a line behind those that are done, if it is one.
func (p *Plan) takeLine(line string) bool {
	_, isCalm := rounds(line)
	if _, e := Act(line); e != api.OK && !isCalm {
		return false
	}
	p.Lines = append(p.Lines, strings.Clone(line)) // the script is not kept
	return true
}

func (p *Plan) takeFirst(text string) api.Errno {
	var e api.Errno
	p.First, e = plain(text)
	return e
}

// plain answers text with what its signs stand for. What is between them stays byte by byte, UTF-8 or not.
func plain(text string) (string, api.Errno) {
	var out strings.Builder
	from, escaped := 0, false
	for i, sign := range text {
		switch {
		case escaped && sign == 'n':
			out.WriteString(end)
		case escaped && sign == '\\':
			out.WriteRune(sign)
		case escaped:
			return "", api.ErrForm
		case sign == '\\':
			out.WriteString(text[from:i])
			escaped = true
			continue
		default:
			continue
		}
		from, escaped = i+1, false
	}
	if escaped {
		return "", api.ErrForm
	}
	return out.String() + text[from:], api.OK
}
