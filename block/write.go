package block

import (
	"strings"

	"emender/api"
	"emender/flat"
	"emender/inline"
)

// whole is where the blocks stand that stand in none.
const whole = -1

// told is what a line of a Para begins with that would be read as another block, or might be.
const told = " #>-0123456789"

// document is a valid one.
type document []api.Token

// blocks answers the lines of the blocks that stand just in the one at i.
func (d document) blocks(i int) []string {
	var lines []string
	var last api.Token
	for _, k := range flat.Kids(d, i) {
		if runTogether(last, d[k]) {
			lines = append(lines, between)
		}
		lines = append(lines, d.block(k)...)
		last = d[k]
	}
	return lines
}

// runTogether tells whether two blocks side by side would be read as one.
func runTogether(a api.Token, b api.Token) bool {
	return a == b && (a.T == api.Quote || a.T == api.List)
}

// block answers the lines of the block at k.
func (d document) block(k int) []string {
	switch d[k].T {
	case api.Rule:
		return []string{rule}
	case api.Head:
		return []string{strings.Repeat(hash, d[k].N) + blank + d.line(k)}
	case api.Block:
		return d.code(k)
	case api.Quote:
		return behind(d.blocks(k), quote+blank, quote+blank)
	case api.List:
		return d.list(k)
	}
	return []string{guarded(d.line(k))}
}

// inner answers what stands in the block at k.
func (d document) inner(k int) []api.Token {
	return d[k+1 : flat.Partner(d, k)]
}

// line answers the line of the Para or Head at k.
func (d document) line(k int) string {
	// In a valid document no line breaks there: nothing can be refused.
	line, _ := inline.Print(d.inner(k))
	return line
}

// guarded answers the line of a Para such that it is read as one.
func guarded(line string) string {
	if line == "" || strings.IndexByte(told, line[0]) >= 0 {
		return escape + line
	}
	return line
}

// code answers the lines of the Block at k, in fences that none of its own lines ends.
func (d document) code(k int) []string {
	lines := strings.Split(flat.Text(d.inner(k)), end)
	n := leastFence
	for _, line := range lines {
		n = max(n, ahead(line, tick)+1)
	}
	fence := strings.Repeat(tick, n)
	return append(append([]string{fence}, lines...), fence)
}

// list answers the lines of the List at k.
func (d document) list(k int) []string {
	var lines []string
	n := d[k].N
	for _, i := range flat.Kids(d, k) {
		lines = append(lines, behind(d.blocks(i), item(n), under(n))...)
	}
	return lines
}

// behind answers the lines, the first one behind a sign, the others behind another.
func behind(lines []string, first string, others string) []string {
	sign := first
	for i, line := range lines {
		lines[i] = sign + line
		sign = others
	}
	return lines
}
