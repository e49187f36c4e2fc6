package block

import "strings"

// What lines begin with, or are.
const (
	blank   = " "
	between = "--" // parts what would be read as one
	rule    = "---"
	quote   = ">"
	bullet  = "- "
	number  = "1. "
	tick    = "`"
	hash    = "#"
	escape  = "\\"
)

const (
	leastFence = 3 // fewer ticks are text
	mostHead   = 6 // more hashes are text
)

// counted is the N of a List with numbers.
const counted = 1

// item answers what the first line of an Item begins with in a List with n.
func item(n int) string {
	if n == counted {
		return number
	}
	return bullet
}

// under answers what the other lines of an Item begin with: blanks below the sign of the first.
func under(n int) string {
	return strings.Repeat(blank, len(item(n)))
}

// ahead answers how many signs, of one byte each, the line begins with.
func ahead(line string, sign string) int {
	return len(line) - len(strings.TrimLeft(line, sign))
}

func isBlank(line string) bool {
	return ahead(line, blank) == len(line)
}

// isFence tells whether the line is ticks alone, at least least.
func isFence(line string, least int) bool {
	n := ahead(line, tick)
	return n == len(line) && n >= least
}

// level answers the N of the Head that the line is, or 0.
func level(line string) int {
	n := ahead(line, hash)
	if n > mostHead || !strings.HasPrefix(line[n:], blank) {
		return 0
	}
	return n
}
