package consts_test

import (
	"slices"
	"testing"

	"turnery/api"
	"turnery/consts"
)

// samples are trees with faults and without.
func samples(t *testing.T) []api.Tree {
	t.Helper()
	list := []api.Tree{exprOf(t, "1 << 63"), exprOf(t, "x + 2 * 3"), exprOf(t, "1 / 0"), exprOf(t, "f(-1, 2 - 3, x, ~y)")}
	for _, text := range []string{everyKind, inWorld("switch (i) { case 1: default: case -1: }"), inWorld("switch (i) { case 1: case 2 - 1: default: default: }"), inWorld("switch (i) { case i: }"), "int x = x; void main() {}", "int x = y;", ""} {
		list = append(list, unitOf(t, text))
	}
	return list
}

// callAll calls all functions of the package.
func callAll(of api.Tree) []any {
	var list []any
	for k := -1; k <= len(of.Nodes); k++ {
		value, ok, f := consts.Value(of, k)
		list = append(list, value, ok, f)
	}
	return append(list, consts.Check(of))
}

// TestArgumentsStay: neither nodes, nor kids, nor what lies behind them in memory is changed.
func TestArgumentsStay(t *testing.T) {
	for _, of := range samples(t) {
		// Each list of kids, and that of the nodes, has spare room with a value in it.
		spare := append(of.Nodes, api.Node{Kind: 66, Text: "spare"})
		of.Nodes = spare[:len(spare)-1]
		var kids [][]int
		for k := range of.Nodes {
			n := &of.Nodes[k]
			more := append(slices.Clone(n.Kids), -7)
			kids = append(kids, more)
			n.Kids = more[:len(more)-1]
		}
		before := slices.Clone(spare)
		var kidsBefore [][]int
		for _, list := range kids {
			kidsBefore = append(kidsBefore, slices.Clone(list))
		}
		first, one := callAll(of), folded(of)
		second, two := callAll(of), folded(of)
		if !slices.Equal(first, second) || !slices.EqualFunc(one.Nodes, two.Nodes, alike) {
			t.Errorf("%v: %v, %v; then %v, %v", of, first, one, second, two)
		}
		if !slices.EqualFunc(spare, before, alike) || !slices.EqualFunc(kids, kidsBefore, slices.Equal) {
			t.Errorf("%v became %v", before, spare)
		}
	}
}

// folded is the result of Fold without its fault.
func folded(of api.Tree) api.Tree {
	to, _ := consts.Fold(of)
	return to
}

// scribble writes over all nodes and kids of a tree, and what lies behind them in memory.
func scribble(of api.Tree) {
	nodes := of.Nodes[:cap(of.Nodes)]
	for k := range nodes {
		kids := nodes[k].Kids[:cap(nodes[k].Kids)]
		for i := range kids {
			kids[i] = -5
		}
		nodes[k] = api.Node{Kind: 77, Kids: kids}
	}
}

// TestResultsAreNew: a result is a part neither of the tree, nor of another result, nor of another list of itself.
func TestResultsAreNew(t *testing.T) {
	for i, of := range samples(t) {
		want, before := folded(samples(t)[i]), samples(t)[i]
		one, two := folded(of), folded(of)
		scribble(one)
		if !slices.EqualFunc(two.Nodes, want.Nodes, alike) || !slices.EqualFunc(of.Nodes, before.Nodes, alike) {
			t.Errorf("%v became %v with another result", want, two)
		}
		scribble(of)
		if !slices.EqualFunc(two.Nodes, want.Nodes, alike) {
			t.Errorf("%v became %v with the tree", want, two)
		}
		for k := range two.Nodes {
			kids := two.Nodes[k].Kids
			for j := range cap(kids) - len(kids) {
				kids[:cap(kids)][len(kids)+j] = -9
			}
		}
		if !slices.EqualFunc(two.Nodes, want.Nodes, alike) {
			t.Errorf("%v became %v with itself", want, two)
		}
	}
}
