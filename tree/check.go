package tree

import "turnery/api"

// begins tells with which node the subtree of each node begins, or what is wrong with the tree.
func begins(t api.Tree) ([]int, api.Fault) {
	count := len(t.Nodes)
	if count < 1 || count > api.MaxNodes {
		return nil, api.Fault{Code: api.ErrMany}
	}
	first := make([]int, count)
	for i := range t.Nodes {
		start, code := begin(t.Nodes[:i+1], first)
		if code != api.OK {
			return nil, api.Fault{Code: code, At: i}
		}
		first[i] = start
	}
	if first[count-1] != 0 {
		return nil, api.Fault{Code: api.ErrForm, At: count - 1}
	}
	if depth(t.Nodes) > api.MaxDeep {
		return nil, api.Fault{Code: api.ErrMuch}
	}
	return first, api.Fault{}
}

// begin tells with which node the subtree of the last node begins, or what is wrong with that node.
// The nodes ahead of it are in their form, and first tells the same of them.
func begin(nodes []api.Node, first []int) (start, code int) {
	n := nodes[len(nodes)-1]
	if !isKind(n.Kind) {
		return 0, api.ErrKind
	}
	if few, many := sizes(n.Kind); len(n.Kids) < few || len(n.Kids) > many {
		return 0, api.ErrSize
	}
	start = len(nodes) - 1
	for place := len(n.Kids) - 1; place >= 0; place-- {
		kid := n.Kids[place]
		// At 0 no node is left for a kid, even for one that is numbered -1.
		if start == 0 || kid != start-1 || !takes(n, place, nodes[kid].Kind) {
			return 0, api.ErrForm
		}
		start = first[kid]
	}
	if code := fields(n); code != api.OK {
		return 0, code
	}
	return start, api.OK
}

// fields tells what is wrong with a node's text and numbers.
func fields(n api.Node) int {
	switch {
	case isNamed(n.Kind) && !isName(n.Text):
		return api.ErrName
	case !isNamed(n.Kind) && !isSign(n.Kind, n.Text):
		return api.ErrText
	case !hasNumbers(n) || n.At < 0:
		return api.ErrRange
	}
	return api.OK
}

// depth is how many nodes are nested at most; each node stands behind its kids.
func depth(nodes []api.Node) int {
	deep := make([]int, len(nodes))
	for i, n := range nodes {
		for _, kid := range n.Kids {
			deep[i] = max(deep[i], deep[kid])
		}
		deep[i]++
	}
	return deep[len(nodes)-1]
}
