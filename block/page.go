package block

import (
	"iter"
	"strings"
)

// page is the lines that are still to be read.
type page struct {
	lines []string
}

func (p *page) next() string {
	line := p.lines[0]
	p.lines = p.lines[1:]
	return line
}

// begun goes over the next lines that begin with the sign, each without it.
func (p *page) begun(sign string) iter.Seq[string] {
	return func(yield func(string) bool) {
		for len(p.lines) > 0 && strings.HasPrefix(p.lines[0], sign) {
			if !yield(p.next()[len(sign):]) {
				return
			}
		}
	}
}

// fenced goes over the next lines up to a fence of at least n ticks, which is read too, or to the end.
func (p *page) fenced(n int) iter.Seq[string] {
	return func(yield func(string) bool) {
		for len(p.lines) > 0 {
			line := p.next()
			if isFence(line, n) || !yield(line) {
				return
			}
		}
	}
}
