package step

import (
	"emender/api"
)

// cut answers the tokens between two places of l, without room behind them: they still are those of l, and nobody may write on into it.
func cut(l []api.Token, from int, to int) []api.Token {
	return l[from:to:to]
}

// join answers the parts, one behind the other, in memory of their own.
func join(parts ...[]api.Token) []api.Token {
	size := 0
	for _, p := range parts {
		size += len(p)
	}
	all := make([]api.Token, size)
	at := 0
	for _, p := range parts {
		at += copy(all[at:], p)
	}
	return all
}
