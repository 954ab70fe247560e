package types_test

import (
	"slices"
	"strconv"
	"testing"

	"turnery/api"
	"turnery/types"
)

// alike compares whole nodes.
func alike(a, b api.Node) bool {
	return a.Kind == b.Kind && a.Text == b.Text && a.N == b.N && a.Size == b.Size && a.At == b.At && slices.Equal(a.Kids, b.Kids)
}

// TestArgumentsStay: neither nodes, nor kids, nor what lies behind them in memory is changed.
func TestArgumentsStay(t *testing.T) {
	for _, text := range []string{everyKind, inWorld("p[i] = fi() + *q++;"), inWorld("p + q;"), inWorld("break;"), "int x = y;", "void main(int x) {}", "int x;"} {
		of := unitOf(t, text)
		// Each list of kids, and that of the nodes, has spare room with a value in it.
		spare := append(of.Nodes, api.Node{Kind: 66, Text: "spare"})
		of.Nodes = spare[:len(spare)-1]
		var kids [][]int
		for k := range of.Nodes {
			n := &of.Nodes[k]
			more := append(slices.Clone(n.Kids), -7)
			kids = append(kids, more)
			n.Kids = more[:len(more)-1]
		}
		before := slices.Clone(spare)
		var kidsBefore [][]int
		for _, list := range kids {
			kidsBefore = append(kidsBefore, slices.Clone(list))
		}
		first, f := types.Of(of)
		second, g := types.Of(of)
		if !slices.Equal(first, second) || f != g {
			t.Errorf("%s: %v, %v; then %v, %v", text, first, f, second, g)
		}
		if !slices.EqualFunc(spare, before, alike) || !slices.EqualFunc(kids, kidsBefore, slices.Equal) {
			t.Errorf("%v became %v", before, spare)
		}
	}
}

// TestResultsAreNew: a result is a part neither of the tree nor of another result.
func TestResultsAreNew(t *testing.T) {
	of, before := unitOf(t, everyKind), unitOf(t, everyKind)
	one, _ := types.Of(of)
	two, _ := types.Of(of)
	want := slices.Clone(one)
	one = one[:cap(one)]
	for i := range one {
		one[i] = 99
	}
	three, _ := types.Of(of)
	if len(want) != len(of.Nodes) || !slices.Equal(two, want) || !slices.Equal(three, want) {
		t.Errorf("%v became %v and %v", want, two, three)
	}
	if !slices.EqualFunc(of.Nodes, before.Nodes, alike) {
		t.Errorf("%v became %v", before, of)
	}
	for k := range of.Nodes {
		of.Nodes[k].N = 77
		for i := range of.Nodes[k].Kids {
			of.Nodes[k].Kids[i] = -5
		}
	}
	if !slices.Equal(two, want) {
		t.Errorf("%v became %v with the tree", want, two)
	}
}

// TestMostNodes has units of as many nodes as a tree can have.
func TestMostNodes(t *testing.T) {
	var of api.Tree
	top := api.Node{Kind: api.TopUnit}
	// A main is two nodes, each global with an initial value is two more, and one global has none.
	of.Nodes = append(of.Nodes, api.Node{Kind: api.DoBlock}, api.Node{Kind: api.TopFunc, Text: "main", Kids: []int{0}}, api.Node{Kind: api.TopVar, N: api.TypePtr, Text: "p"})
	top.Kids = append(top.Kids, 1, 2)
	want := make([]int, api.MaxNodes)
	for k := 3; k+2 < api.MaxNodes; k += 2 {
		of.Nodes = append(of.Nodes, api.Node{Kind: api.IsNum, N: k}, api.Node{Kind: api.TopVar, N: api.TypeInt, Text: "x" + strconv.Itoa(k), Kids: []int{k}})
		top.Kids = append(top.Kids, k+1)
		want[k] = api.TypeInt
	}
	of.Nodes = append(of.Nodes, top)
	if len(of.Nodes) != api.MaxNodes {
		t.Fatalf("%d nodes", len(of.Nodes))
	}
	if got, f := types.Of(of); f != (api.Fault{}) || !slices.Equal(got, want) {
		t.Errorf("%v, %v", got, f)
	}
	of.Nodes[api.MaxNodes-3] = api.Node{Kind: api.IsName, Text: "p"}
	fails(t, "the last one of another type", of, api.Fault{Code: api.ErrType, At: api.MaxNodes - 2})
	of.Nodes[1].Text = "f"
	fails(t, "and no main", of, api.Fault{Code: api.ErrType, At: api.MaxNodes - 2})
	of.Nodes[api.MaxNodes-3] = api.Node{Kind: api.IsNum}
	fails(t, "no main", of, api.Fault{Code: api.ErrNone})
}
