package types

import (
	"slices"

	"turnery/api"
)

// action tells what is wrong with node k, which is no expression.
func (c *checker) action(k int) int {
	n := c.nodes[k]
	ok := true
	switch n.Kind {
	case api.TopVar, api.DoVar:
		ok = c.initials(n)
	case api.DoIf, api.DoWhile:
		ok = c.isCondition(n.Kids[0])
	case api.DoUntil, api.DoFor:
		ok = c.isCondition(n.Kids[1])
	case api.DoSwitch, api.DoCase:
		ok = c.types[n.Kids[0]] == api.TypeInt
	case api.DoReturn:
		ok = c.returns(k)
	case api.DoBreak:
		return c.inside(k, api.DoWhile, api.DoUntil, api.DoFor, api.DoSwitch)
	case api.DoNext:
		return c.inside(k, api.DoWhile, api.DoUntil, api.DoFor)
	}
	if !ok {
		return api.ErrType
	}
	return api.OK
}

// initials tells whether the initial values of a variable are of its type.
func (c *checker) initials(n api.Node) bool {
	want := n.N
	if want == api.TypeArray {
		want = api.TypeInt
	}
	for kid := range c.kidTypes(n) {
		if kid != want {
			return false
		}
	}
	return true
}

// isCondition takes the one that a for does not have, too.
func (c *checker) isCondition(k int) bool {
	return c.nodes[k].Kind == api.DoNothing || isValue(c.types[k])
}

// returns tells whether return k has what its function tells.
func (c *checker) returns(k int) bool {
	result := api.TypeVoid
	for outer := range c.around(k) {
		if c.nodes[outer].Kind == api.TopFunc {
			result = c.nodes[outer].N
			break
		}
	}
	kids := c.nodes[k].Kids
	if result == api.TypeVoid || len(kids) == 0 {
		return result == api.TypeVoid && len(kids) == 0
	}
	return c.types[kids[0]] == result
}

// inside tells what is wrong with node k if it has to be inside one of these kinds.
func (c *checker) inside(k int, kinds ...int) int {
	for outer := range c.around(k) {
		if slices.Contains(kinds, c.nodes[outer].Kind) {
			return api.OK
		}
	}
	return api.ErrState
}
