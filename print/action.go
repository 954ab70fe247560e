package print

import "turnery/api"

// action is the phrase of an action, or of what else may stand in a switch.
func (w writer) action(n api.Node) phrase {
	kid := func(place int) phrase { return w.node(n.Kids[place]) }
	switch n.Kind {
	case api.DoBlock:
		return inBraces(w.all(n.Kids))
	case api.DoIf:
		return inTurn(key("if"), inParentheses(kid(0)), kid(1), w.otherwise(n.Kids[2:]))
	case api.DoWhile:
		return inTurn(key("while"), inParentheses(kid(0)), kid(1))
	case api.DoUntil:
		return inTurn(key("do"), kid(0), key("while"), inParentheses(kid(1)), sign(";"))
	case api.DoFor:
		return inTurn(key("for"), inParentheses(w.head(n)), kid(3))
	case api.DoSwitch:
		return inTurn(key("switch"), inParentheses(kid(0)), inBraces(w.all(n.Kids[1:])))
	case api.DoCase:
		return inTurn(key("case"), kid(0), sign(":"))
	case api.DoElse:
		return inTurn(key("default"), sign(":"))
	}
	return inTurn(w.bare(n), sign(";"))
}

// otherwise is the phrase of the block of an else, if there is one.
func (w writer) otherwise(blocks []int) phrase {
	if len(blocks) == 0 {
		return inTurn()
	}
	return inTurn(key("else"), w.all(blocks))
}

// head is the phrase of what stands between the parentheses of a for.
func (w writer) head(n api.Node) phrase {
	part := func(place int) phrase { return w.bare(w.nodes[n.Kids[place]]) }
	return inTurn(part(0), sign(";"), part(1), sign(";"), part(2))
}

// bare is the phrase of a part of a for, or of another action without the semicolon that ends it.
func (w writer) bare(n api.Node) phrase {
	switch n.Kind {
	case api.DoVar:
		return inTurn(declared(n), w.initial(n))
	case api.DoBreak:
		return key("break")
	case api.DoNext:
		return key("continue")
	case api.DoReturn:
		return inTurn(key("return"), w.all(n.Kids))
	case api.DoExpr, api.DoNothing:
		return w.all(n.Kids)
	}
	return w.expr(n)
}
