package print_test

import (
	"math"
	"math/rand"
	"strings"

	"turnery/api"
)

// join puts trees one behind the other, and n, whose kids they become, behind them.
func join(n api.Node, parts ...api.Tree) api.Tree {
	var all api.Tree
	for _, part := range parts {
		by := len(all.Nodes)
		for _, m := range part.Nodes {
			kids := make([]int, len(m.Kids))
			for i, kid := range m.Kids {
				kids[i] = kid + by
			}
			m.Kids = kids
			all.Nodes = append(all.Nodes, m)
		}
		n.Kids = append(n.Kids, len(all.Nodes)-1)
	}
	all.Nodes = append(all.Nodes, n)
	return all
}

// node is one of a kind, with its text, above its kids.
func node(kind int, text string, kids ...api.Tree) api.Tree {
	return join(api.Node{Kind: kind, Text: text}, kids...)
}

// typed is a node that declares a name, above its kids.
func typed(kind, typ int, name string, kids ...api.Tree) api.Tree {
	return join(api.Node{Kind: kind, N: typ, Text: name}, kids...)
}

// array is a global of so many words.
func array(name string, size int, values ...api.Tree) api.Tree {
	return join(api.Node{Kind: api.TopVar, N: api.TypeArray, Size: size, Text: name}, values...)
}

func num(n int) api.Tree { return join(api.Node{Kind: api.IsNum, N: n}) }

func word(name string) api.Tree { return node(api.IsName, name) }

func behind(sign string, e api.Tree) api.Tree {
	return join(api.Node{Kind: api.IsStep, Text: sign, N: 1}, e)
}

func block(actions ...api.Tree) api.Tree { return node(api.DoBlock, "", actions...) }

func effect(e api.Tree) api.Tree { return node(api.DoExpr, "", e) }

func nothing() api.Tree { return node(api.DoNothing, "") }

// repeat is a list of so many trees.
func repeat(part api.Tree, count int) []api.Tree {
	list := make([]api.Tree, count)
	for i := range list {
		list[i] = part
	}
	return list
}

// deep is an expression of so many nodes, one within the other.
func deep(count int) api.Tree {
	e := word("a")
	for range count - 1 {
		e = node(api.IsOne, "~", e)
	}
	return e
}

const oneSigns, twoSigns, setSigns = "- ! ~ * &", "+ - * / % & | ^ << >> == != < <= > >=", "= += -= *= /= %= &= |= ^= <<= >>="

// grower makes random trees. Its methods bound how many nodes are nested by high, so far as their node needs no more.
type grower struct{ *rand.Rand }

func (g grower) one(words string) string {
	list := strings.Fields(words)
	return list[g.Intn(len(list))]
}

func (g grower) name() string { return g.one("x y _1 longestname_ If f int0") }

func (g grower) oneOf(makers ...func(int) api.Tree) func(int) api.Tree {
	return makers[g.Intn(len(makers))]
}

// some are up to most trees.
func (g grower) some(most, high int, maker func(int) api.Tree) []api.Tree {
	var list []api.Tree
	for n := g.Intn(most + 1); n > 0; n-- {
		list = append(list, maker(high))
	}
	return list
}

func (g grower) expr(high int) api.Tree {
	if high < 2 || g.Intn(8) == 0 {
		return g.leaf()
	}
	e := func() api.Tree { return g.expr(high - 1) }
	switch g.Intn(9) {
	case 0:
		return node(api.IsCall, g.name(), g.some(3, high-1, g.expr)...)
	case 1:
		return node(api.IsIndex, "", e(), e())
	case 2:
		return node(api.IsOne, g.one(oneSigns), e())
	case 3, 4:
		return node(api.IsTwo, g.one(twoSigns), e(), e())
	case 5:
		return node(api.IsBoth, g.one("&& ||"), e(), e())
	case 6:
		return node(api.IsPick, "", e(), e(), e())
	case 7:
		return node(api.IsSet, g.one(setSigns), e(), e())
	}
	return join(api.Node{Kind: api.IsStep, Text: g.one("++ --"), N: g.Intn(2)}, e())
}

func (g grower) leaf() api.Tree {
	if g.Intn(2) == 0 {
		return word(g.name())
	}
	return num([]int{0, 1, 7, 10, 255, math.MaxInt}[g.Intn(6)])
}

func (g grower) block(high int) api.Tree {
	if high < 2 {
		return block()
	}
	return block(g.some(3, high-1, g.action)...)
}

func (g grower) effect(high int) api.Tree { return effect(g.expr(high - 1)) }

func (g grower) nothing(int) api.Tree { return nothing() }

func (g grower) local(high int) api.Tree {
	return typed(api.DoVar, api.TypeInt+g.Intn(2), g.name(), g.some(1, high-1, g.expr)...)
}

func (g grower) action(high int) api.Tree {
	if high < 3 {
		return node(api.DoBreak+g.Intn(2), "")
	}
	e := func() api.Tree { return g.expr(high - 1) }
	b := func() api.Tree { return g.block(high - 1) }
	switch g.Intn(11) {
	case 0:
		return b()
	case 1:
		return g.local(high)
	case 2, 3:
		return g.effect(high)
	case 4:
		return node(api.DoIf, "", e(), b())
	case 5:
		return node(api.DoIf, "", e(), b(), b())
	case 6:
		return node(api.DoWhile, "", e(), b())
	case 7:
		return node(api.DoUntil, "", b(), e())
	case 8:
		return node(api.DoFor, "", g.oneOf(g.local, g.effect, g.nothing)(high-1), g.oneOf(g.expr, g.nothing)(high-1), g.oneOf(g.effect, g.nothing)(high-1), b())
	case 9:
		return node(api.DoSwitch, "", append([]api.Tree{e()}, g.some(4, high-1, g.inSwitch)...)...)
	}
	return node(api.DoReturn, "", g.some(1, high-1, g.expr)...)
}

func (g grower) inSwitch(high int) api.Tree {
	switch g.Intn(4) {
	case 0:
		return node(api.DoCase, "", g.expr(high-1))
	case 1:
		return node(api.DoElse, "")
	}
	return g.action(high)
}

func (g grower) param(int) api.Tree { return typed(api.TopParam, api.TypeInt+g.Intn(2), g.name()) }

func (g grower) top(high int) api.Tree {
	switch g.Intn(4) {
	case 0:
		return typed(api.TopVar, api.TypeInt+g.Intn(2), g.name(), g.some(1, high-1, g.expr)...)
	case 1:
		values := g.some(3, high-1, g.expr)
		return array(g.name(), max(1, len(values)+g.Intn(2)), values...)
	}
	return typed(api.TopFunc, g.Intn(3), g.name(), append(g.some(3, 1, g.param), g.block(high-1))...)
}

func (g grower) unit(high int) api.Tree { return node(api.TopUnit, "", g.some(4, high-1, g.top)...) }
