package parse

import (
	"turnery/api"
	"turnery/precedence"
)

// exprParser reads expressions. Its methods are steps, or make steps: each adds one loose node, if nothing else is said.
type exprParser struct {
	cursor
	builder
}

// expr reads any expression.
func (p *exprParser) expr() error {
	mark := p.mark()
	if err := p.pairs(precedence.Or); err != nil {
		return err
	}
	t := p.peek()
	switch {
	case t.Text == "?":
		return p.extend(mark, api.Node{Kind: api.IsPick, At: t.At}, p.word("?"), p.expr, p.word(":"), p.expr)
	case isSet(t.Text):
		return p.extend(mark, api.Node{Kind: api.IsSet, Text: t.Text, At: t.At}, p.word(t.Text), p.expr)
	}
	return nil
}

// pairs reads an expression without operators of lower levels outside parentheses.
func (p *exprParser) pairs(lowest int) error {
	mark := p.mark()
	if err := p.prefixed(); err != nil {
		return err
	}
	for precedence.Of(p.peek().Text) >= lowest {
		t := p.take()
		level := precedence.Of(t.Text)
		n := api.Node{Kind: pairKind(level), Text: t.Text, At: t.At}
		operand := func() error { return p.pairs(level + 1) }
		if err := p.extend(mark, n, operand); err != nil {
			return err
		}
	}
	return nil
}

func (p *exprParser) prefixed() error {
	t := p.peek()
	kind := prefixKind(t.Text)
	if kind == 0 {
		return p.postfixed()
	}
	return p.build(api.Node{Kind: kind, Text: t.Text, At: t.At}, p.word(t.Text), p.prefixed)
}

func (p *exprParser) postfixed() error {
	mark := p.mark()
	if err := p.primary(); err != nil {
		return err
	}
	for {
		t := p.peek()
		switch t.Text {
		case "[":
			n := api.Node{Kind: api.IsIndex, At: t.At}
			if err := p.extend(mark, n, p.word("["), p.expr, p.word("]")); err != nil {
				return err
			}
		case "++", "--":
			p.take()
			p.add(api.Node{Kind: api.IsStep, Text: t.Text, N: 1, At: t.At}, mark)
		default:
			return nil
		}
	}
}

func (p *exprParser) primary() error {
	t := p.peek()
	switch {
	case t.Kind == api.TokNum:
		p.take()
		return p.build(api.Node{Kind: api.IsNum, N: t.N, At: t.At})
	case t.Kind == api.TokName:
		p.take()
		if p.sees("(") {
			return p.build(api.Node{Kind: api.IsCall, Text: t.Text, At: t.At}, p.list("(", p.expr, ")"))
		}
		return p.build(api.Node{Kind: api.IsName, Text: t.Text, At: t.At})
	}
	return inTurn(p.word("("), p.expr, p.word(")"))
}

// list is the step that reads any number of items, with commas between them: it adds what each of them adds.
func (p *exprParser) list(open string, item step, end string) step {
	return func() error {
		if err := p.word(open)(); err != nil {
			return err
		}
		if p.took(end) {
			return nil
		}
		for {
			if err := item(); err != nil {
				return err
			}
			if !p.took(",") {
				return p.word(end)()
			}
		}
	}
}
