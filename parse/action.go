package parse

import "turnery/api"

// block reads actions in braces.
func (p *unitParser) block() error {
	return p.build(api.Node{Kind: api.DoBlock, At: p.peek().At}, p.braced(p.action))
}

// braced is the step that reads any number of items in braces: it adds what each of them adds.
func (p *unitParser) braced(item step) step {
	return func() error {
		if err := p.word("{")(); err != nil {
			return err
		}
		for !p.took("}") {
			if err := item(); err != nil {
				return err
			}
		}
		return nil
	}
}

// body reads an action that becomes a block if it is none.
func (p *unitParser) body() error {
	if p.sees("{") {
		return p.block()
	}
	return p.build(api.Node{Kind: api.DoBlock, At: p.peek().At}, p.action)
}

func (p *unitParser) action() error {
	t := p.peek()
	switch t.Text {
	case "{":
		return p.block()
	case "int":
		return inTurn(p.local, p.word(";"))
	case "if", "while", "do", "for", "switch":
		return p.compound()
	case "break":
		return p.build(api.Node{Kind: api.DoBreak, At: t.At}, p.word("break"), p.word(";"))
	case "continue":
		return p.build(api.Node{Kind: api.DoNext, At: t.At}, p.word("continue"), p.word(";"))
	case "return":
		return p.build(api.Node{Kind: api.DoReturn, At: t.At}, p.word("return"), p.told, p.word(";"))
	case ";":
		return inTurn(p.nothing, p.word(";"))
	}
	return inTurn(p.effect, p.word(";"))
}

// compound reads an action within which are others.
func (p *unitParser) compound() error {
	t := p.take()
	n := api.Node{At: t.At}
	switch t.Text {
	case "if":
		n.Kind = api.DoIf
		return p.build(n, p.condition, p.body, p.otherwise)
	case "while":
		n.Kind = api.DoWhile
		return p.build(n, p.condition, p.body)
	case "do":
		n.Kind = api.DoUntil
		return p.build(n, p.body, p.word("while"), p.condition, p.word(";"))
	case "for":
		n.Kind = api.DoFor
		return p.build(n, p.word("("), p.start, p.word(";"), p.unless(";", p.expr), p.word(";"), p.unless(")", p.effect), p.word(")"), p.body)
	}
	n.Kind = api.DoSwitch
	return p.build(n, p.condition, p.braced(p.inSwitch))
}

func (p *unitParser) condition() error { return inTurn(p.word("("), p.expr, p.word(")")) }

// otherwise adds a node only if there is an else.
func (p *unitParser) otherwise() error {
	if !p.took("else") {
		return nil
	}
	return p.body()
}

// told adds a node only if a return tells a value.
func (p *unitParser) told() error {
	if p.sees(";") {
		return nil
	}
	return p.expr()
}

// local reads a local variable, without the semicolon.
func (p *unitParser) local() error {
	n, err := p.declared()
	if err != nil {
		return err
	}
	n.Kind = api.DoVar
	return p.build(n, p.initial)
}

// effect reads an expression that is an action, without the semicolon.
func (p *unitParser) effect() error {
	return p.build(api.Node{Kind: api.DoExpr, At: p.peek().At}, p.expr)
}

// nothing goes past no token: the empty parts of a for stand where the next one does.
func (p *unitParser) nothing() error {
	return p.build(api.Node{Kind: api.DoNothing, At: p.peek().At})
}

// start reads the first part of a for.
func (p *unitParser) start() error {
	if p.sees("int") {
		return p.local()
	}
	return p.unless(";", p.effect)()
}

// unless is the step that reads a part of a for, which is empty if the end follows.
func (p *unitParser) unless(end string, part step) step {
	return func() error {
		if p.sees(end) {
			return p.nothing()
		}
		return part()
	}
}

// inSwitch reads what may stand between the braces of a switch.
func (p *unitParser) inSwitch() error {
	t := p.peek()
	switch t.Text {
	case "case":
		return p.build(api.Node{Kind: api.DoCase, At: t.At}, p.word("case"), p.expr, p.word(":"))
	case "default":
		return p.build(api.Node{Kind: api.DoElse, At: t.At}, p.word("default"), p.word(":"))
	}
	return p.action()
}
