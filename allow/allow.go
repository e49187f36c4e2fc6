// Package allow does steps under a schema, for all layers that do them: what a step makes of a document counts only if it is valid.
package allow

import (
	"emender/api"
	"emender/schema"
	"emender/step"
)

// Do answers what s makes of l, or what keeps s from being done at l under the schema c: step.Apply's error, or that of c.Check.
func Do(c *schema.Schema, l []api.Token, s api.Step) ([]api.Token, api.Errno) {
	then, e := step.Apply(l, s)
	if e != api.OK {
		return nil, e
	}
	if _, e := c.Check(then); e != api.OK {
		return nil, e
	}
	return then, api.OK
}
