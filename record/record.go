// Package record holds what all layers ask that read and keep entries: who may have made one, and one in memory of its own.
package record

import (
	"slices"

	"emender/api"
)

// IsClient tells whether who is a client.
func IsClient(who int) bool {
	return who >= 0 && who < api.MaxClients
}

// Clone answers an entry in memory of its own, the slice of its step too.
func Clone(one api.Entry) api.Entry {
	one.S.Slice = slices.Clone(one.S.Slice)
	return one
}

// CloneAll answers entries in memory of their own, their slices too.
func CloneAll(l []api.Entry) []api.Entry {
	var all []api.Entry
	for _, one := range l {
		all = append(all, Clone(one))
	}
	return all
}
