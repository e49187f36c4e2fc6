package schema

import (
	"emender/api"
)

const houseWhole = "block+"

// House answers the house's schema.
func House() *Schema {
	s, _ := New(houseWhole, houseTypes(), houseGroups())
	return s
}

// houseTypes answers the types of the house, in the order of their numbers.
func houseTypes() []api.Spec {
	return []api.Spec{
		{Name: "para", Expr: "text*", Marks: mostMarks},
		{Name: "head", Expr: "text*", Marks: mostMarks, Least: 1, Most: 6},
		{Name: "quote", Expr: "block+"},
		{Name: "code", Expr: "text*", Lines: true},
		{Name: "list", Expr: "item+", Most: 1},
		{Name: "item", Expr: "block+"},
		{Name: "rule", Leaf: true},
	}
}

func houseGroups() []api.Group {
	return []api.Group{
		{Name: "block", Types: []int{api.Para, api.Head, api.Quote, api.Block, api.List, api.Rule}},
	}
}
