package print_test

import (
	"fmt"
	"math"
	"testing"

	"turnery/api"
)

// flat is a tree of these nodes as they are.
func flat(nodes ...api.Node) api.Tree { return api.Tree{Nodes: nodes} }

// TestFaults: what is wrong with the form of a tree, at the first node at which something is.
func TestFaults(t *testing.T) {
	x, one := api.Node{Kind: api.IsName, Text: "x"}, api.Node{Kind: api.IsNum, N: 1}
	empty, none := api.Node{Kind: api.DoBlock}, api.Node{Kind: api.DoNothing}
	sum := api.Node{Kind: api.IsTwo, Text: "+", Kids: []int{0, 1}}
	for i, c := range []struct {
		of       api.Tree
		code, at int
	}{
		{api.Tree{}, api.ErrMany, 0}, {flat(make([]api.Node, api.MaxNodes+1)...), api.ErrMany, 0}, {flat(make([]api.Node, api.MaxNodes)...), api.ErrKind, 0},
		{flat(api.Node{}), api.ErrKind, 0}, {flat(x, api.Node{Kind: 5}), api.ErrKind, 1}, {flat(x, one, api.Node{Kind: 41, Kids: []int{0, 1}}), api.ErrKind, 2}, {flat(api.Node{Kind: -1}), api.ErrKind, 0}, {flat(api.Node{Kind: math.MaxInt}), api.ErrKind, 0},
		{flat(x, api.Node{Kind: api.IsTwo, Text: "+", Kids: []int{0}}), api.ErrSize, 1}, {flat(x, api.Node{Kind: api.IsName, Text: "f", Kids: []int{0}}), api.ErrSize, 1}, {flat(api.Node{Kind: api.TopFunc, Text: "f"}), api.ErrSize, 0}, {flat(api.Node{Kind: api.DoSwitch}), api.ErrSize, 0},
		{flat(x, empty, api.Node{Kind: api.DoFor, Kids: []int{0, 1}}), api.ErrSize, 2}, {flat(api.Node{Kind: api.TopVar, Text: "x", N: api.TypeInt, Kids: make([]int, api.MaxWords+1)}), api.ErrSize, 0},
		{flat(x, one, api.Node{Kind: api.IsTwo, Text: "+", Kids: []int{1, 0}}), api.ErrForm, 2}, {flat(x, one, api.Node{Kind: api.IsTwo, Text: "+", Kids: []int{0, 2}}), api.ErrForm, 2}, {flat(x, api.Node{Kind: api.IsOne, Text: "-", Kids: []int{-1}}), api.ErrForm, 1}, {flat(x, api.Node{Kind: api.IsOne, Text: "-", Kids: []int{math.MinInt}}), api.ErrForm, 1}, {flat(api.Node{Kind: api.IsOne, Text: "-", Kids: []int{0}}), api.ErrForm, 0},
		{flat(empty, api.Node{Kind: api.IsOne, Text: "-", Kids: []int{0}}), api.ErrForm, 1}, {flat(x, none, api.Node{Kind: api.DoWhile, Kids: []int{0, 1}}), api.ErrForm, 2}, {flat(x, empty, none, api.Node{Kind: api.DoIf, Kids: []int{0, 1, 2}}), api.ErrForm, 3}, {flat(api.Node{Kind: api.DoElse}, api.Node{Kind: api.DoBlock, Kids: []int{0}}), api.ErrForm, 1},
		{flat(api.Node{Kind: api.IsName}), api.ErrName, 0}, {flat(one, api.Node{Kind: api.IsName, Text: "9x"}), api.ErrName, 1}, {flat(api.Node{Kind: api.IsName, Text: "thirteenbytes"}), api.ErrName, 0}, {flat(api.Node{Kind: api.TopParam, Text: "a b", N: api.TypeInt}), api.ErrName, 0}, {flat(api.Node{Kind: api.DoVar, Text: "x;", N: api.TypeInt}), api.ErrName, 0}, {flat(empty, api.Node{Kind: api.TopFunc, Text: "é", Kids: []int{0}}), api.ErrName, 1},
		{flat(x, one, api.Node{Kind: api.IsTwo, Text: "&&", Kids: []int{0, 1}}), api.ErrText, 2}, {flat(x, api.Node{Kind: api.IsOne, Text: "+", Kids: []int{0}}), api.ErrText, 1}, {flat(api.Node{Kind: api.IsNum, Text: "1", N: 1}), api.ErrText, 0}, {flat(x, one, api.Node{Kind: api.IsSet, Text: "==", Kids: []int{0, 1}}), api.ErrText, 2}, {flat(api.Node{Kind: api.TopUnit, Text: "x"}), api.ErrText, 0},
		{flat(api.Node{Kind: api.IsNum, N: -1}), api.ErrRange, 0}, {flat(one, api.Node{Kind: api.IsNum, N: math.MinInt}), api.ErrRange, 1}, {flat(api.Node{Kind: api.IsName, Text: "x", N: 1}), api.ErrRange, 0}, {flat(x, api.Node{Kind: api.IsStep, Text: "++", N: 2, Kids: []int{0}}), api.ErrRange, 1}, {flat(api.Node{Kind: api.IsName, Text: "x", At: -1}), api.ErrRange, 0},
		{flat(api.Node{Kind: api.TopVar, Text: "x"}), api.ErrRange, 0}, {flat(api.Node{Kind: api.TopVar, Text: "x", N: api.TypeArray}), api.ErrRange, 0}, {flat(api.Node{Kind: api.TopVar, Text: "x", N: api.TypeArray, Size: api.MaxWords + 1}), api.ErrRange, 0}, {flat(x, one, api.Node{Kind: api.TopVar, Text: "x", N: api.TypeArray, Size: 1, Kids: []int{0, 1}}), api.ErrRange, 2}, {flat(x, one, api.Node{Kind: api.TopVar, Text: "x", N: api.TypeInt, Kids: []int{0, 1}}), api.ErrRange, 2},
		{flat(api.Node{Kind: api.TopParam, Text: "x", N: api.TypeVoid}), api.ErrRange, 0}, {flat(api.Node{Kind: api.DoVar, Text: "x", N: api.TypeArray, Size: 1}), api.ErrRange, 0}, {flat(empty, api.Node{Kind: api.TopFunc, Text: "f", N: api.TypeFunc, Kids: []int{0}}), api.ErrRange, 1},
		{flat(x, one), api.ErrForm, 1}, {flat(x, x, one, api.Node{Kind: api.IsTwo, Text: "+", Kids: []int{1, 2}}), api.ErrForm, 3}, {flat(one, empty), api.ErrForm, 1},
		{deep(api.MaxDeep + 1), api.ErrMuch, 0},
		// Of several faults the one of the first node counts, and at one node the first in the order of R2.2.
		{flat(api.Node{Kind: api.IsNum, N: -1}, api.Node{}), api.ErrRange, 0}, {flat(api.Node{Kind: api.IsTwo, Text: "no", N: 5, Kids: []int{7}, At: -1}), api.ErrSize, 0}, {flat(api.Node{Kind: api.IsOne, Text: "no", N: 5, Kids: []int{7}, At: -1}), api.ErrForm, 0}, {flat(api.Node{Kind: api.IsName, Text: "+", N: 5, At: -1}), api.ErrName, 0}, {flat(x, api.Node{Kind: api.IsOne, Text: "no", N: 5, Kids: []int{0}, At: -1}), api.ErrText, 1},
		{flat(x, sum), api.ErrForm, 1}, {join(api.Node{Kind: api.IsOne, Text: "no"}, deep(api.MaxDeep+1)), api.ErrText, api.MaxDeep + 1},
	} {
		fails(t, fmt.Sprint("tree ", i), c.of, api.Fault{Code: c.code, At: c.at})
	}
}

// TestFaultsOfFormFirst: what is wrong with the form of a tree comes ahead of a text too large and of names that are keywords.
func TestFaultsOfFormFirst(t *testing.T) {
	for _, ahead := range []api.Tree{word("if"), call(word("int"), num(1)), call(repeat(word("a"), 590)...), call(repeat(word("longestname_"), 200)...)} {
		last := len(ahead.Nodes)
		fails(t, "alone", ahead, tooMuch)
		fails(t, "under an operator", node(api.IsOne, "-", ahead), tooMuch)
		fails(t, "under a sign that is none", node(api.IsOne, "+", ahead), api.Fault{Code: api.ErrText, At: last})
		fails(t, "under a wrong number", join(api.Node{Kind: api.IsStep, Text: "++", N: -1}, ahead), api.Fault{Code: api.ErrRange, At: last})
		fails(t, "under a wrong offset", join(api.Node{Kind: api.IsStep, Text: "++", At: -1}, ahead), api.Fault{Code: api.ErrRange, At: last})
		fails(t, "under no kind", node(9, "", ahead), api.Fault{Code: api.ErrKind, At: last})
		fails(t, "under too few kids", node(api.IsTwo, "+", ahead), api.Fault{Code: api.ErrSize, At: last})
		fails(t, "under a kind without it", node(api.DoBlock, "", ahead), api.Fault{Code: api.ErrForm, At: last})
		fails(t, "under a name that is none", node(api.IsCall, "1", ahead), api.Fault{Code: api.ErrName, At: last})
		fails(t, "beside another", flat(append(append([]api.Node(nil), ahead.Nodes...), api.Node{Kind: api.IsNum})...), api.Fault{Code: api.ErrForm, At: last})
	}
	fails(t, "a keyword in too many nodes", call(repeat(word("if"), api.MaxNodes)...), api.Fault{Code: api.ErrMany})
}
