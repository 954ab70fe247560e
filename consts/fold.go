package consts

import (
	"math"
	"strings"

	"turnery/api"
)

// fold copies a tree with numbers in place of the outermost nodes whose values are known.
func fold(nodes []api.Node, known map[int]int) api.Tree {
	var folded api.Tree
	add := func(n api.Node, kids ...int) int {
		n.Kids = kids
		folded.Nodes = append(folded.Nodes, n)
		return len(folded.Nodes) - 1
	}
	var visit func(k int) int
	visit = func(k int) int {
		n := nodes[k]
		if value, ok := known[k]; ok {
			return addNumber(value, n.At, add)
		}
		var kids []int
		for _, kid := range n.Kids {
			kids = append(kids, visit(kid))
		}
		// The result must not keep the texts of the tree alive.
		n.Text = strings.Clone(n.Text)
		return add(n, kids...)
	}
	visit(len(nodes) - 1)
	return folded
}

// addNumber adds nodes with the value and that offset, and tells which one is the root of them.
func addNumber(value, at int, add func(n api.Node, kids ...int) int) int {
	num := func(n int) int { return add(api.Node{Kind: api.IsNum, N: n, At: at}) }
	minus := func(n int) int { return add(api.Node{Kind: api.IsOne, Text: "-", At: at}, num(n)) }
	switch {
	case value >= 0:
		return num(value)
	case value > math.MinInt:
		return minus(-value)
	}
	// No IsNum can have the smallest number without its sign.
	left := minus(math.MaxInt)
	return add(api.Node{Kind: api.IsTwo, Text: "-", At: at}, left, num(1))
}
