package print

import "turnery/api"

// writer makes phrases of the nodes of a tree that is in its form.
type writer struct{ nodes []api.Node }

// node is the phrase of node k as a whole: an action has the semicolon that ends it, an expression no parentheses around it.
func (w writer) node(k int) phrase {
	n := w.nodes[k]
	switch {
	case n.Kind <= api.TopParam:
		return w.top(n)
	case n.Kind <= api.DoNothing:
		return w.action(n)
	}
	return w.expr(n)
}

// each is the phrases of the nodes.
func (w writer) each(nodes []int) []phrase {
	var list []phrase
	for _, k := range nodes {
		list = append(list, w.node(k))
	}
	return list
}

// all is the phrase of the nodes one behind the other.
func (w writer) all(nodes []int) phrase { return inTurn(w.each(nodes)...) }

// top is the phrase of a unit, or of what is outside functions or in the head of one.
func (w writer) top(n api.Node) phrase {
	switch n.Kind {
	case api.TopVar:
		return inTurn(declared(n), w.initial(n), sign(";"))
	case api.TopFunc:
		last := len(n.Kids) - 1
		params := listed(w.each(n.Kids[:last]))
		return inTurn(declared(n), inParentheses(params), w.node(n.Kids[last]))
	case api.TopParam:
		return declared(n)
	}
	return w.all(n.Kids)
}

// declared is the phrase of a name and its type: that of a function is what it returns.
func declared(n api.Node) phrase {
	switch n.N {
	case api.TypeVoid:
		return inTurn(key("void"), name(n.Text))
	case api.TypePtr:
		return inTurn(key("int"), sign("*"), name(n.Text))
	case api.TypeArray:
		return inTurn(key("int"), name(n.Text), sign("["), number(n.Size), sign("]"))
	}
	return inTurn(key("int"), name(n.Text))
}

// initial is the phrase of the values that a variable has at first: it has no words if there are none.
func (w writer) initial(n api.Node) phrase {
	switch {
	case len(n.Kids) == 0:
		return inTurn()
	case n.N == api.TypeArray:
		return inTurn(sign("="), inBraces(listed(w.each(n.Kids))))
	}
	return inTurn(sign("="), w.all(n.Kids))
}
