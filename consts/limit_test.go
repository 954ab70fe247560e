package consts_test

import (
	"math"
	"testing"

	"turnery/api"
	"turnery/consts"
	"turnery/tree"
)

// treeOf is a branch as a tree in its form.
func treeOf(t *testing.T, b branch) api.Tree {
	t.Helper()
	of := api.Tree{Nodes: b.list(nil)}
	if f := tree.Check(of); f != (api.Fault{}) {
		t.Fatalf("%v: %v", of, f)
	}
	return of
}

// num and over are branches of a number and of a sign ahead of an expression.
func num(n int) branch { return branch{Node: api.Node{Kind: api.IsNum, N: n}} }

func over(sign string, b branch) branch {
	return branch{Node: api.Node{Kind: api.IsOne, Text: sign}, kids: []branch{b}}
}

// call has so many arguments of each kind.
func call(counts ...int) branch {
	two := func(sign string, a, b branch) branch {
		return branch{Node: api.Node{Kind: api.IsTwo, Text: sign}, kids: []branch{a, b}}
	}
	// These become 4, 4, 1, 1 and 2 nodes.
	args := []branch{over("~", num(math.MaxInt)), two("<<", num(1), num(63)), num(5), two("+", num(1), num(1)), two("-", num(1), num(2))}
	c := branch{Node: api.Node{Kind: api.IsCall, Text: "f"}}
	for i, count := range counts {
		for range count {
			c.kids = append(c.kids, args[i])
		}
	}
	return c
}

// comes tells the test if the folded tree does not have so many nodes, or is not what the model makes of it.
func comes(t *testing.T, what string, of api.Tree, count int) {
	t.Helper()
	want, f := modelFolded(t, of)
	if f != (api.Fault{}) || len(want.Nodes) != count {
		t.Fatalf("%s: %d nodes, %v", what, len(want.Nodes), f)
	}
	becomes(t, what, of, want)
}

// TestMostNodes: the result has MaxNodes nodes at most, whatever grew on the way.
func TestMostNodes(t *testing.T) {
	comes(t, "the smallest number", treeOf(t, call(149)), 4*149+1)
	comes(t, "as many as may be", treeOf(t, call(149, 0, 3)), api.MaxNodes)
	comes(t, "as many as may be, of shifts", treeOf(t, call(0, 149, 3)), api.MaxNodes)
	comes(t, "as many as before", treeOf(t, call(0, 0, api.MaxNodes-1)), api.MaxNodes)
	much := api.Fault{Code: api.ErrMuch}
	noFold(t, "one too many", treeOf(t, call(149, 0, 4)), much)
	noFold(t, "one too many, of shifts", treeOf(t, call(0, 149, 4)), much)
	noFold(t, "three too many", treeOf(t, call(150, 0, 2)), much)
	noFold(t, "far too many", treeOf(t, call(299)), much)
	noFold(t, "of as many as can be", treeOf(t, call(1, 0, api.MaxNodes-3)), much)
	noFold(t, "of as many as can be, and a shift", treeOf(t, call(0, 1, api.MaxNodes-4)), much)
	// What grows in one place may shrink in another one, ahead of it or behind it.
	comes(t, "grown and shrunk", treeOf(t, call(1, 0, api.MaxNodes-6, 1)), api.MaxNodes)
	comes(t, "grown and shrunk as much", treeOf(t, call(2, 0, 583, 4)), 4*2+583+4+1)
	comes(t, "shrunk", treeOf(t, call(0, 0, 2, 199)), 2+199+1)
	comes(t, "differences", treeOf(t, call(0, 0, 2, 0, 199)), 2+2*199+1)
	noFold(t, "grown more than shrunk", treeOf(t, call(2, 0, 592, 1)), much)
	back := call(2, 0, 583, 4)
	for i, j := 0, len(back.kids)-1; i < j; i, j = i+1, j-1 {
		back.kids[i], back.kids[j] = back.kids[j], back.kids[i]
	}
	comes(t, "shrunk and grown", treeOf(t, back), 4*2+583+4+1)
}

// chain is a branch with so many more nodes above it.
func chain(count int, b branch) branch {
	for range count {
		b = over("*", b)
	}
	return b
}

// TestDeepest: the result has MaxDeep nested nodes at most.
func TestDeepest(t *testing.T) {
	much := api.Fault{Code: api.ErrMuch}
	most, negative := over("~", num(math.MaxInt)), over("-", num(1))
	comes(t, "the smallest number", treeOf(t, chain(api.MaxDeep-3, most)), api.MaxDeep-3+4)
	noFold(t, "the smallest number too deep", treeOf(t, chain(api.MaxDeep-2, most)), much)
	comes(t, "a negative number", treeOf(t, chain(api.MaxDeep-2, negative)), api.MaxDeep)
	comes(t, "a number", treeOf(t, chain(api.MaxDeep-1, num(1))), api.MaxDeep)
	comes(t, "a shift", treeOf(t, chain(api.MaxDeep-3, call(0, 1).kids[0])), api.MaxDeep-3+4)
	noFold(t, "a shift too deep", treeOf(t, chain(api.MaxDeep-2, call(0, 1).kids[0])), much)
	// Beside what grows, another part may be deeper.
	for _, c := range []struct{ a, b int }{{37, 39}, {37, 2}} {
		f := branch{Node: api.Node{Kind: api.IsCall, Text: "f"}, kids: []branch{chain(c.a-1, most), chain(c.b-1, num(1))}}
		comes(t, "deep arguments", treeOf(t, f), 1+c.a-1+4+c.b)
		f.kids[0], f.kids[1] = f.kids[1], f.kids[0]
		comes(t, "deep arguments", treeOf(t, f), 1+c.a-1+4+c.b)
		f.kids[1] = chain(c.a, most)
		noFold(t, "too deep an argument", treeOf(t, f), much)
		f.kids[0], f.kids[1] = f.kids[1], f.kids[0]
		noFold(t, "too deep an argument", treeOf(t, f), much)
	}
	// A deep constant is one number.
	deep := num(7)
	for range api.MaxDeep - 1 {
		deep = over("-", deep)
	}
	comes(t, "signs", treeOf(t, deep), 2)
	deep.kids[0].kids[0] = chain(api.MaxDeep-3, num(1))
	comes(t, "signs above places", treeOf(t, deep), api.MaxDeep)
}

// TestDeepValues: the value of the deepest expressions is found.
func TestDeepValues(t *testing.T) {
	deep := num(7)
	for range api.MaxDeep - 1 {
		deep = over("~", deep)
	}
	of := treeOf(t, deep)
	if value, ok, f := consts.Value(of, api.MaxDeep-1); value != -8 || !ok || f != (api.Fault{}) {
		t.Errorf("%d, %v, %v", value, ok, f)
	}
	wide := treeOf(t, call(0, 0, api.MaxNodes-1))
	for _, k := range []int{0, 1, api.MaxNodes - 2} {
		if value, ok, f := consts.Value(wide, k); value != 5 || !ok || f != (api.Fault{}) {
			t.Errorf("%d, %v, %v", value, ok, f)
		}
	}
	if value, ok, f := consts.Value(wide, api.MaxNodes-1); value != 0 || ok || f != (api.Fault{}) {
		t.Errorf("%d, %v, %v", value, ok, f)
	}
	noNode(t, wide, api.MaxNodes)
}
