package scope_test

import (
	"slices"

	"turnery/api"
)

// model looks for what each name stands for anew, among all declarations of a unit.
type model struct {
	nodes  []api.Node
	parent []int
	order  []int // the nodes as they are looked at
	turn   []int // of each node its place in that order
}

func modelOf(t api.Tree) model {
	m := model{nodes: t.Nodes, parent: make([]int, len(t.Nodes)), turn: make([]int, len(t.Nodes))}
	for k, n := range t.Nodes {
		for _, kid := range n.Kids {
			m.parent[kid] = k
		}
	}
	m.order = m.inOrder(len(t.Nodes) - 1)
	for i, k := range m.order {
		m.turn[k] = i
	}
	return m
}

// inOrder is the subtree of a node as it is looked at.
func (m model) inOrder(k int) []int {
	var list []int
	for _, kid := range m.nodes[k].Kids {
		list = append(list, m.inOrder(kid)...)
	}
	if m.nodes[k].Kind == api.DoVar {
		return append(list, k)
	}
	return append([]int{k}, list...)
}

// scopeOf is the node that opens the scope that a node is in.
func (m model) scopeOf(k int) int {
	for k = m.parent[k]; ; k = m.parent[k] {
		switch m.nodes[k].Kind {
		case api.TopUnit, api.TopFunc, api.DoBlock, api.DoFor, api.DoSwitch:
			return k
		}
	}
}

// inScope is the first declaration of node k's name in a scope that is visible at k.
func (m model) inScope(scope, k int) (int, bool) {
	for _, d := range m.order {
		before := m.turn[d] < m.turn[k] || m.nodes[scope].Kind == api.TopUnit
		if declares(m.nodes[d].Kind) && m.nodes[d].Text == m.nodes[k].Text && before && m.scopeOf(d) == scope {
			return d, true
		}
	}
	return 0, false
}

// name is what an IsName stands for.
func (m model) name(k int) (int, int) {
	for scope := k; m.nodes[scope].Kind != api.TopUnit; {
		scope = m.scopeOf(scope)
		if d, ok := m.inScope(scope, k); ok && m.nodes[d].Kind != api.TopFunc {
			return d, api.OK
		} else if ok {
			break
		}
	}
	return 0, api.ErrNone
}

// call is what an IsCall stands for.
func (m model) call(k int) (int, int) {
	for d, n := range m.nodes {
		if n.Kind == api.TopFunc && n.Text == m.nodes[k].Text {
			return d, api.OK
		}
	}
	if text := m.nodes[k].Text; text == "read" || text == "print" {
		return -1, api.OK
	}
	return 0, api.ErrNone
}

// topFault is what is wrong with the unit's own scope.
func (m model) topFault() api.Fault {
	tops := m.nodes[len(m.nodes)-1].Kids
	for i, k := range tops {
		text := m.nodes[k].Text
		if text == "read" || text == "print" {
			return api.Fault{Code: api.ErrName, At: k}
		}
		if slices.ContainsFunc(tops[:i], func(d int) bool { return m.nodes[d].Text == text }) {
			return api.Fault{Code: api.ErrTwice, At: k}
		}
	}
	return api.Fault{}
}

// names is what scope.Names shall come to for a unit that is in its form.
func (m model) names() ([]int, api.Fault) {
	if f := m.topFault(); f.Code != api.OK {
		return nil, f
	}
	found := make([]int, len(m.nodes))
	for _, k := range m.order {
		by, code := -1, api.OK
		switch m.nodes[k].Kind {
		case api.TopVar, api.TopFunc:
			by = k
		case api.TopParam, api.DoVar:
			by = k
			if _, twice := m.inScope(m.scopeOf(k), k); twice {
				code = api.ErrTwice
			}
		case api.IsName:
			by, code = m.name(k)
		case api.IsCall:
			by, code = m.call(k)
		}
		if code != api.OK {
			return nil, api.Fault{Code: code, At: k}
		}
		found[k] = by
	}
	return found, api.Fault{}
}
