package print

import (
	"turnery/api"
	"turnery/precedence"
)

// expr is the phrase of an expression, without parentheses around the whole.
func (w writer) expr(n api.Node) phrase {
	own := levelOf(n)
	kid := func(place int) phrase { return w.node(n.Kids[place]) }
	operand := func(place, lowest int) phrase { return w.operand(n.Kids[place], lowest) }
	switch n.Kind {
	case api.IsNum:
		return number(n.N)
	case api.IsName:
		return name(n.Text)
	case api.IsCall:
		return inTurn(name(n.Text), inParentheses(listed(w.each(n.Kids))))
	case api.IsIndex:
		return inTurn(operand(0, own), sign("["), kid(1), sign("]"))
	case api.IsPick:
		return inTurn(operand(0, own+1), sign("?"), kid(1), sign(":"), kid(2))
	case api.IsSet:
		return inTurn(operand(0, own+1), sign(n.Text), kid(1))
	case api.IsTwo, api.IsBoth:
		return inTurn(operand(0, own), sign(n.Text), operand(1, own+1))
	}
	if own == precedence.Postfix {
		return inTurn(operand(0, own), sign(n.Text))
	}
	return inTurn(sign(n.Text), operand(0, own))
}

// operand is the phrase of expression k at a place that allows operators of a level and of higher ones.
func (w writer) operand(k, lowest int) phrase {
	n := w.nodes[k]
	if levelOf(n) < lowest {
		return inParentheses(w.expr(n))
	}
	return w.expr(n)
}

// levelOf is the level of the operator of an expression.
func levelOf(n api.Node) int {
	switch n.Kind {
	case api.IsSet, api.IsPick:
		return precedence.Set
	case api.IsTwo, api.IsBoth:
		return precedence.Of(n.Text)
	case api.IsOne:
		return precedence.Prefix
	case api.IsStep:
		if n.N == 0 {
			return precedence.Prefix
		}
		return precedence.Postfix
	case api.IsIndex:
		return precedence.Postfix
	}
	return precedence.Primary
}
