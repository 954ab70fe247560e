package types

import (
	"slices"
	"strings"

	"turnery/api"
)

// expr is the type of expression k, and whether it is one that may stand there.
func (c *checker) expr(k int) (of int, ok bool) {
	n := c.nodes[k]
	kids := slices.Collect(c.kidTypes(n))
	switch n.Kind {
	case api.IsName:
		return c.name(k), true
	case api.IsCall:
		params, result := c.callee(k)
		return result, slices.Equal(kids, params)
	case api.IsIndex:
		return api.TypeInt, kids[0] == api.TypePtr && kids[1] == api.TypeInt
	case api.IsOne:
		return c.one(n, kids[0])
	case api.IsTwo:
		return two(n.Text, kids[0], kids[1])
	case api.IsBoth:
		return api.TypeInt, isValue(kids[0]) && isValue(kids[1])
	case api.IsPick:
		return kids[1], isValue(kids[0]) && isValue(kids[1]) && kids[1] == kids[2]
	case api.IsSet:
		return set(n.Text, kids[0], kids[1], c.isPlace(n.Kids[0]))
	case api.IsStep:
		return kids[0], c.isPlace(n.Kids[0])
	}
	return api.TypeInt, true
}

// name is the type of the value of what name k stands for.
func (c *checker) name(k int) int {
	if c.isArray(k) {
		return api.TypePtr
	}
	return c.nodes[c.names[k]].N
}

func (c *checker) isArray(name int) bool { return c.nodes[c.names[name]].N == api.TypeArray }

// callee is what the function that call k names takes and tells.
func (c *checker) callee(k int) (params []int, result int) {
	switch by := c.names[k]; {
	case by >= 0:
		return slices.Collect(c.params(c.nodes[by])), c.nodes[by].N
	case c.nodes[k].Text == "print":
		return []int{api.TypeInt}, api.TypeInt
	}
	return nil, api.TypeInt
}

// isPlace tells whether a value can be put into expression k.
func (c *checker) isPlace(k int) bool {
	switch n := c.nodes[k]; n.Kind {
	case api.IsName:
		return !c.isArray(k)
	case api.IsIndex:
		return true
	case api.IsOne:
		return n.Text == "*"
	}
	return false
}

// isInMemory tells whether place k is one that pointers can lead to.
func (c *checker) isInMemory(k int) bool {
	return c.nodes[k].Kind != api.IsName || c.nodes[c.names[k]].Kind == api.TopVar
}

// one is expr for a sign ahead of a kid of the type.
func (c *checker) one(n api.Node, kid int) (of int, ok bool) {
	switch n.Text {
	case "!":
		return api.TypeInt, isValue(kid)
	case "*":
		return api.TypeInt, kid == api.TypePtr
	case "&":
		return api.TypePtr, kid == api.TypeInt && c.isPlace(n.Kids[0]) && c.isInMemory(n.Kids[0])
	}
	return api.TypeInt, kid == api.TypeInt
}

// two is the type of `a sign b`, by those of a and b, and whether there is one.
func two(sign string, a, b int) (of int, ok bool) {
	intInt, ptrInt := a == api.TypeInt && b == api.TypeInt, a == api.TypePtr && b == api.TypeInt
	intPtr, ptrPtr := a == api.TypeInt && b == api.TypePtr, a == api.TypePtr && b == api.TypePtr
	switch sign {
	case "==", "!=", "<", "<=", ">", ">=":
		return api.TypeInt, intInt || ptrPtr
	case "+":
		if ptrInt || intPtr {
			return api.TypePtr, true
		}
	case "-":
		if ptrInt {
			return api.TypePtr, true
		}
		return api.TypeInt, intInt || ptrPtr
	}
	return api.TypeInt, intInt
}

// set is the type of an assignment of a value of type from to a place of type to.
func set(sign string, to, from int, isPlace bool) (of int, ok bool) {
	value := from
	ok = true
	if sign != "=" {
		value, ok = two(strings.TrimSuffix(sign, "="), to, from)
	}
	return to, ok && isPlace && value == to
}
