package schema

import (
	"slices"
	"strings"

	"emender/api"
	"emender/expr"
	"emender/mark"
	"emender/reg"
)

const (
	text      = 0 // the type that all schemas have
	textName  = "text"
	firstType = 1
	mostType  = api.MaxTypes - 1
	mostMarks = api.Strong | api.Em | api.Code
	mostN     = 15
	lineEnd   = 10
)

// kind is a type, with the tree of what may stand in it.
// The whole is one too: as it has neither marks nor lines, the rules of text that stands in a type hold for it as well.
type kind struct {
	api.Spec
	tree api.Expr
}

// kindsOf answers the whole and the types, whose trees are not read yet.
func kindsOf(l []api.Spec) []kind {
	kinds := []kind{{}}
	for _, spec := range l {
		kinds = append(kinds, kind{Spec: spec})
	}
	return kinds
}

// namesOf answers all names that expressions may have, text first.
func namesOf(l []api.Spec, g []api.Group) []api.Group {
	names := []api.Group{{Name: textName, Types: []int{text}}}
	for i, spec := range l {
		names = append(names, api.Group{Name: spec.Name, Types: []int{firstType + i}})
	}
	for _, one := range g {
		names = append(names, api.Group{Name: one.Name, Types: slices.Clone(one.Types)})
	}
	return names
}

// rightNames tells whether all names are letters, and none is there twice.
func rightNames(names []api.Group) bool {
	for i, one := range names {
		same := func(other api.Group) bool { return other.Name == one.Name }
		if !isName(one.Name) || slices.ContainsFunc(names[:i], same) {
			return false
		}
	}
	return true
}

func isName(s string) bool {
	other := func(c rune) bool { return c < 'a' || c > 'z' }
	return s != "" && !strings.ContainsFunc(s, other)
}

func (k *kind) hasMarks() bool {
	return 0 <= k.Marks && k.Marks <= mostMarks
}

func (k *kind) hasNumbers() bool {
	return 0 <= k.Least && k.Least <= k.Most && k.Most <= mostN
}

// isEmptyLeaf tells whether nothing may stand in k, if it is a leaf.
func (k *kind) isEmptyLeaf() bool {
	return !k.Leaf || k.Expr == ""
}

// read makes the tree of the expression of k.
func (k *kind) read(expression string, names []api.Group) api.Errno {
	tree, _, e := expr.Parse(expression)
	if e != api.OK {
		return e
	}
	k.tree = tree
	return reg.Check(tree, names)
}

// takesRune tells whether the TRune t may stand in k, whatever stands beside it.
func (k *kind) takesRune(t api.Token) bool {
	return mark.Within(t.M, k.Marks) == t.M && (t.N != lineEnd || k.Lines)
}

// mayBe tells whether t, a TOpen or a TLeaf, may be one of the type k, wherever it stands.
func (k *kind) mayBe(t api.Token) bool {
	return k.Leaf == (t.K == api.TLeaf) && k.Least <= t.N && t.N <= k.Most
}
