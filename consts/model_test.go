package consts_test

import (
	"math"
	"math/big"
	"testing"

	"turnery/api"
	"turnery/parse"
)

// word64 is a number as the low 64 bits of it tell it, the highest of them as its sign.
func word64(n *big.Int) *big.Int {
	size := new(big.Int).Lsh(big.NewInt(1), 64)
	// Mod of big numbers is not negative.
	low := new(big.Int).Mod(n, size)
	if low.Bit(63) == 1 {
		low.Sub(low, size)
	}
	return low
}

// modelOne is what a sign ahead of a number comes to, with numbers of any size; nil: nothing.
func modelOne(sign string, a *big.Int) *big.Int {
	switch sign {
	case "-":
		return word64(new(big.Int).Sub(new(big.Int), a))
	case "~":
		// All bits are others: the sum with the number has all of them.
		return new(big.Int).Sub(big.NewInt(-1), a)
	case "!":
		return bit(a.Sign() == 0)
	}
	return nil
}

func bit(is bool) *big.Int {
	if is {
		return big.NewInt(1)
	}
	return new(big.Int)
}

// modelTwo is modelOne for a sign between two numbers.
func modelTwo(sign string, a, b *big.Int) *big.Int {
	to := new(big.Int)
	count := uint(new(big.Int).Mod(b, big.NewInt(64)).Int64())
	switch sign {
	case "+":
		to.Add(a, b)
	case "-":
		to.Sub(a, b)
	case "*":
		to.Mul(a, b)
	case "/", "%":
		if b.Sign() == 0 {
			return nil
		}
		// Quo and Rem are those towards 0.
		if to.Quo(a, b); sign == "%" {
			to.Rem(a, b)
		}
	case "&":
		to.And(a, b)
	case "|":
		to.Or(a, b)
	case "^":
		to.Xor(a, b)
	case "<<":
		to.Mul(a, to.Exp(big.NewInt(2), big.NewInt(int64(count)), nil))
	case ">>":
		to.Rsh(a, count)
	default:
		return modelTest(sign, a, b)
	}
	return word64(to)
}

// modelTest is modelTwo for the signs that come to 0 or 1.
func modelTest(sign string, a, b *big.Int) *big.Int {
	switch sign {
	case "==":
		return bit(a.Cmp(b) == 0)
	case "!=":
		return bit(a.Cmp(b) != 0)
	case "<":
		return bit(a.Cmp(b) < 0)
	case "<=":
		return bit(a.Cmp(b) <= 0)
	case ">":
		return bit(a.Cmp(b) > 0)
	case ">=":
		return bit(a.Cmp(b) >= 0)
	case "&&":
		return bit(a.Sign()*b.Sign() != 0)
	case "||":
		return bit(a.Sign() != 0 || b.Sign() != 0)
	}
	return nil
}

// modelValue goes from a node down to the numbers; nil: it is not constant.
func modelValue(of api.Tree, k int) *big.Int {
	n := of.Nodes[k]
	var kids []*big.Int
	for _, kid := range n.Kids {
		kids = append(kids, modelValue(of, kid))
		if kids[len(kids)-1] == nil {
			return nil
		}
	}
	switch n.Kind {
	case api.IsNum:
		return big.NewInt(int64(n.N))
	case api.IsOne:
		return modelOne(n.Text, kids[0])
	case api.IsTwo, api.IsBoth:
		return modelTwo(n.Text, kids[0], kids[1])
	case api.IsPick:
		// The list is of what is picked if the condition is 0, and if it is 1.
		return kids[2-modelTest("!=", kids[0], new(big.Int)).Int64()]
	}
	return nil
}

// modelShown is what shown shall be.
func modelShown(of api.Tree, k int) string {
	if kind := of.Nodes[k].Kind; kind < api.IsNum || kind > api.IsStep {
		return "?"
	}
	if value := modelValue(of, k); value != nil {
		return value.String()
	}
	return "-"
}

// modelCheck is what is wrong with constants of a unit that has no other faults.
func modelCheck(of api.Tree) api.Fault {
	for k, n := range of.Nodes {
		kinds := map[int]func() api.Fault{
			api.TopVar:   func() api.Fault { return modelGlobal(of, n) },
			api.DoCase:   func() api.Fault { return modelForm(of, n.Kids[0], k) },
			api.DoSwitch: func() api.Fault { return modelSwitch(of, n.Kids[1:]) },
		}
		if check := kinds[n.Kind]; check != nil {
			if f := check(); f != (api.Fault{}) {
				return f
			}
		}
	}
	return api.Fault{}
}

// modelForm is a fault at a node if an expression is not constant.
func modelForm(of api.Tree, k, at int) api.Fault {
	if modelValue(of, k) == nil {
		return api.Fault{Code: api.ErrForm, At: at}
	}
	return api.Fault{}
}

func modelGlobal(of api.Tree, n api.Node) api.Fault {
	if n.N == api.TypePtr && len(n.Kids) > 0 {
		return api.Fault{Code: api.ErrForm, At: n.Kids[0]}
	}
	for _, kid := range n.Kids {
		if f := modelForm(of, kid, kid); f != (api.Fault{}) {
			return f
		}
	}
	return api.Fault{}
}

// modelSwitch holds each two parts of a switch against each other.
func modelSwitch(of api.Tree, kids []int) api.Fault {
	label := func(k int) string {
		switch n := of.Nodes[k]; n.Kind {
		case api.DoCase:
			return "case " + modelValue(of, n.Kids[0]).String()
		case api.DoElse:
			return "default"
		}
		return ""
	}
	for i, later := range kids {
		for _, earlier := range kids[:i] {
			if label(later) != "" && label(earlier) == label(later) {
				return api.Fault{Code: api.ErrTwice, At: later}
			}
		}
	}
	return api.Fault{}
}

// branch is a node with its kids in it.
type branch struct {
	api.Node
	kids []branch
}

// branchOf is a node of a tree with all that is below it.
func branchOf(of api.Tree, k int) branch {
	b := branch{Node: of.Nodes[k]}
	for _, kid := range b.Kids {
		b.kids = append(b.kids, branchOf(of, kid))
	}
	return b
}

// list is the nodes of a branch behind others, as a tree has them.
func (b branch) list(nodes []api.Node) []api.Node {
	b.Kids = nil
	for _, kid := range b.kids {
		nodes = kid.list(nodes)
		b.Kids = append(b.Kids, len(nodes)-1)
	}
	return append(nodes, b.Node)
}

// modelFold has the trees that the parser makes of numbers in place of constant expressions.
func modelFold(t *testing.T, of api.Tree, k int) branch {
	t.Helper()
	if value := modelValue(of, k); value != nil {
		number, f := parse.Expr(modelNumber(value))
		if f != (api.Fault{}) {
			t.Fatalf("%v: %v", value, f)
		}
		for i := range number.Nodes {
			number.Nodes[i].At = of.Nodes[k].At
		}
		return branchOf(number, len(number.Nodes)-1)
	}
	b := branch{Node: of.Nodes[k]}
	for _, kid := range b.Kids {
		b.kids = append(b.kids, modelFold(t, of, kid))
	}
	return b
}

// modelNumber is a text of a number that the parser takes.
func modelNumber(n *big.Int) string {
	if n.Cmp(big.NewInt(math.MinInt)) == 0 {
		return "- 9223372036854775807 - 1"
	}
	return n.String()
}

// high is how many nodes of a branch are nested.
func (b branch) high() int {
	most := 0
	for _, kid := range b.kids {
		most = max(most, kid.high())
	}
	return most + 1
}

// modelFolded is the whole result for a tree in its form.
func modelFolded(t *testing.T, of api.Tree) (api.Tree, api.Fault) {
	t.Helper()
	b := modelFold(t, of, len(of.Nodes)-1)
	nodes := b.list(nil)
	if len(nodes) > api.MaxNodes || b.high() > api.MaxDeep {
		return api.Tree{}, api.Fault{Code: api.ErrMuch}
	}
	return api.Tree{Nodes: nodes}, api.Fault{}
}
