package block

import (
	"slices"
	"strings"

	"emender/api"
	"emender/inline"
)

// read answers the document of the lines. What is too deep is found far inside: it leaves by a panic.
func read(lines []string) (l []api.Token, e api.Errno) {
	defer func() {
		if refusal := recover(); refusal != nil {
			l, e = nil, refusal.(api.Errno)
		}
	}()
	var r reader
	r.blocks(lines)
	// Only here it is sure that nothing is too deep, which counts first.
	if len(r.tokens) > api.MaxDoc {
		panic(api.ErrLong)
	}
	return r.tokens, api.OK
}

// reader holds the tokens of what has been read.
type reader struct {
	tokens []api.Token
	deep   int
}

// blocks reads the lines of a whole, a Quote or an Item, in each of which there must be a block.
func (r *reader) blocks(lines []string) {
	was := len(r.tokens)
	for p := (&page{lines}); len(p.lines) > 0; {
		r.block(p)
	}
	if len(r.tokens) == was {
		r.text(api.Para, 0, "")
	}
}

// block reads the block that begins with the next line, or the line alone, if none does.
func (r *reader) block(p *page) {
	line := p.lines[0]
	list := 0
	kind, n := api.Para, 0
	switch {
	case isBlank(line), line == between:
		p.next()
	case line == rule:
		p.next()
		r.tokens = append(r.tokens, api.Token{K: api.TLeaf, T: api.Rule})
	case strings.HasPrefix(line, quote):
		r.quote(p)
	case strings.HasPrefix(line, number):
		list = counted
		fallthrough
	case strings.HasPrefix(line, bullet):
		r.list(p, list)
	case isFence(line, leastFence):
		r.code(p)
	case level(line) > 0:
		kind, n = api.Head, level(line)
		line = line[n+len(blank):]
		fallthrough
	default:
		p.next()
		r.text(kind, n, line)
	}
}

func (r *reader) quote(p *page) {
	var inner []string
	for line := range p.begun(quote) {
		inner = append(inner, strings.TrimPrefix(line, blank))
	}
	r.enclose(api.Quote, 0, func() { r.blocks(inner) })
}

func (r *reader) list(p *page, n int) {
	r.enclose(api.List, n, func() {
		for first := range p.begun(item(n)) {
			others := slices.Collect(p.begun(under(n)))
			r.enclose(api.Item, 0, func() { r.blocks(slices.Insert(others, 0, first)) })
		}
	})
}

// code reads a Block, whose text is as it is written.
func (r *reader) code(p *page) {
	fence := p.next()
	lines := slices.Collect(p.fenced(len(fence)))
	r.enclose(api.Block, 0, func() {
		for _, point := range strings.Join(lines, end) {
			r.tokens = append(r.tokens, api.Token{N: int(point)})
		}
	})
}

// text reads the line of a Para or a Head.
func (r *reader) text(kind int, n int, line string) {
	r.enclose(kind, n, func() {
		// The line is a part of a text that has been looked at: nothing in it can be refused.
		l, _, _ := inline.Parse(line)
		r.tokens = append(r.tokens, l...)
	})
}

// enclose puts what fill reads in a block.
func (r *reader) enclose(kind int, n int, fill func()) {
	if r.deep == api.MaxDeep {
		panic(api.ErrDeep)
	}
	r.deep++
	r.tokens = append(r.tokens, api.Token{K: api.TOpen, T: kind, N: n})
	fill()
	r.tokens = append(r.tokens, api.Token{K: api.TClose})
	r.deep--
}
