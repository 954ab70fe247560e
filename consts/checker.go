package consts

import "turnery/api"

// checker looks for what has to be constant in a unit without a fault of types.
type checker struct {
	nodes []api.Node
	known map[int]int // the values of constant expressions
}

// check tells what is wrong with node k.
func (c *checker) check(k int) api.Fault {
	n := c.nodes[k]
	switch n.Kind {
	case api.TopVar:
		return c.initials(n)
	case api.DoCase:
		if !c.isConstant(n.Kids[0]) {
			return api.Fault{Code: api.ErrForm, At: k}
		}
	case api.DoSwitch:
		return c.choices(n)
	}
	return api.Fault{}
}

func (c *checker) isConstant(k int) bool {
	_, ok := c.known[k]
	return ok
}

// initials finds no fault with those of a pointer by its type alone: what has the type of a pointer is never constant.
func (c *checker) initials(n api.Node) api.Fault {
	for _, kid := range n.Kids {
		if !c.isConstant(kid) {
			return api.Fault{Code: api.ErrForm, At: kid}
		}
	}
	return api.Fault{}
}

// choices looks for a case or default that the switch has already. The cases stand ahead of the switch in the list, so that they are known to be constant.
func (c *checker) choices(n api.Node) api.Fault {
	cases := map[int]bool{}
	hasElse := false
	for _, kid := range n.Kids {
		twice := false
		switch choice := c.nodes[kid]; choice.Kind {
		case api.DoCase:
			value := c.known[choice.Kids[0]]
			twice, cases[value] = cases[value], true
		case api.DoElse:
			twice, hasElse = hasElse, true
		}
		if twice {
			return api.Fault{Code: api.ErrTwice, At: kid}
		}
	}
	return api.Fault{}
}
