package parse

import "turnery/api"

// unitParser reads units, and expressions as the parser of these does.
type unitParser struct{ exprParser }

// unit reads the whole text.
func (p *unitParser) unit() error {
	return p.build(api.Node{Kind: api.TopUnit}, p.globals)
}

// globals adds a node for each global variable and each function.
func (p *unitParser) globals() error {
	for !p.ended() {
		if err := p.global(); err != nil {
			return err
		}
	}
	return nil
}

func (p *unitParser) global() error {
	if p.took("void") {
		n, err := p.named(api.TypeVoid)
		if err != nil {
			return err
		}
		return p.function(n)
	}
	n, err := p.declared()
	if err != nil {
		return err
	}
	switch {
	case p.sees("("):
		return p.function(n)
	case p.sees("[") && n.N == api.TypeInt:
		return p.array(n)
	}
	n.Kind = api.TopVar
	return p.build(n, p.initial, p.word(";"))
}

// declared reads a type and the name that is declared to have it, but adds no node.
func (p *unitParser) declared() (api.Node, error) {
	if err := p.word("int")(); err != nil {
		return api.Node{}, err
	}
	if p.took("*") {
		return p.named(api.TypePtr)
	}
	return p.named(api.TypeInt)
}

// named reads the name of what is declared to have the type, but adds no node.
func (p *unitParser) named(typ int) (api.Node, error) {
	t, err := p.kind(api.TokName)
	if err != nil {
		return api.Node{}, err
	}
	return api.Node{Text: t.Text, N: typ, At: t.At}, nil
}

// initial adds a node only if there is an initial value.
func (p *unitParser) initial() error {
	if !p.took("=") {
		return nil
	}
	return p.expr()
}

// function reads what is behind the name of a function.
func (p *unitParser) function(n api.Node) error {
	n.Kind = api.TopFunc
	return p.build(n, p.list("(", p.param, ")"), p.block)
}

func (p *unitParser) param() error {
	n, err := p.declared()
	if err != nil {
		return err
	}
	n.Kind = api.TopParam
	return p.build(n)
}

// array reads what is behind the name of an array.
func (p *unitParser) array(n api.Node) error {
	if err := p.word("[")(); err != nil {
		return err
	}
	size, err := p.kind(api.TokNum)
	if err != nil {
		return err
	}
	if size.N < 1 || size.N > api.MaxWords {
		return mistake{api.Fault{Code: api.ErrRange, At: size.At}}
	}
	n.Kind, n.N, n.Size = api.TopVar, api.TypeArray, size.N
	return p.build(n, p.word("]"), p.values(size.N), p.word(";"))
}

// values is the step that adds a node for each initial value of an array of so many words.
func (p *unitParser) values(most int) step {
	return func() error {
		if !p.took("=") {
			return nil
		}
		at, mark := p.peek().At, p.mark()
		if err := p.list("{", p.expr, "}")(); err != nil {
			return err
		}
		if p.mark()-mark > most {
			return mistake{api.Fault{Code: api.ErrSize, At: at}}
		}
		return nil
	}
}
