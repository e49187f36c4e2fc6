package expr

import (
	"strings"

	"emender/api"
)

// write writes e, which is right.
func write(text *strings.Builder, e api.Expr) {
	switch e.K {
	case api.EName:
		text.WriteString(e.Name)
	case api.ESeq:
		writeRow(text, e, ' ')
	case api.EAlt:
		writeRow(text, e, '|')
	case api.EStar, api.EPlus, api.EOpt:
		writeWithin(text, e.L[0], e.K)
		text.WriteByte(signs[e.K-api.EStar])
	}
}

func writeRow(text *strings.Builder, e api.Expr, between byte) {
	for i, inner := range e.L {
		if i > 0 {
			text.WriteByte(between)
		}
		writeWithin(text, inner, e.K)
	}
}

// writeWithin writes inner as it stands in the kind outer.
func writeWithin(text *strings.Builder, inner api.Expr, outer int) {
	if !needsBrackets(inner.K, outer) {
		write(text, inner)
		return
	}
	text.WriteByte('(')
	write(text, inner)
	text.WriteByte(')')
}

// needsBrackets tells whether the kind inner in outer would be read otherwise without them: signs bind ahead of parts, and parts ahead of choices.
func needsBrackets(inner int, outer int) bool {
	switch outer {
	case api.EAlt:
		return false
	case api.ESeq:
		return inner == api.EAlt
	}
	return isRow(inner)
}
