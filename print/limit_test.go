package print_test

import (
	"strings"
	"testing"

	"turnery/api"
	"turnery/print"
)

var tooMuch = api.Fault{Code: api.ErrMuch}

// size tells the test if the text of the tree has not so many tokens and bytes.
func size(t *testing.T, what string, of api.Tree, tokens, bytes int) {
	t.Helper()
	got, f := print.Text(of)
	if count := len(strings.Fields(got)); f != (api.Fault{}) || count != tokens || len(got) != bytes {
		t.Errorf("%s: %d tokens, %d bytes, %v; want %d tokens, %d bytes", what, count, len(got), f, tokens, bytes)
		return
	}
	faithful(t, of, got)
}

func call(args ...api.Tree) api.Tree { return node(api.IsCall, "f", args...) }

// with puts a tree behind so many copies of another one.
func with(part api.Tree, count int, last ...api.Tree) []api.Tree {
	return append(repeat(part, count), last...)
}

func TestMaxTokens(t *testing.T) {
	a, b := word("a"), word("b")
	for _, x := range []struct {
		what string
		full api.Tree
		more api.Tree
	}{
		{"an expression", call(repeat(a, 399)...), call(with(a, 398, node(api.IsOne, "-", a))...)},
		{"many names more", call(repeat(a, 399)...), call(repeat(a, 590)...)},
		{"an action", block(repeat(block(), 399)...), block(with(block(), 399, nothing())...)},
		{"blocks", block(repeat(block(), 399)...), block(repeat(block(), 400)...)},
		{
			"parentheses",
			call(with(a, 395, node(api.IsTwo, "+", node(api.IsSet, "=", a, b), a))...),
			call(with(a, 395, node(api.IsTwo, "+", node(api.IsSet, "=", a, node(api.IsOne, "-", b)), a))...),
		},
		{
			// Without the parentheses there would be 800 tokens.
			"parentheses alone",
			call(with(a, 396, node(api.IsTwo, "+", node(api.IsTwo, "+", a, b), a))...),
			call(with(a, 396, node(api.IsTwo, "+", a, node(api.IsTwo, "+", b, a)))...),
		},
		{"a switch", node(api.DoSwitch, "", append(repeat(a, 1), repeat(block(), 397)...)...), node(api.DoSwitch, "", append(repeat(a, 1), with(block(), 397, nothing())...)...)},
		{"a function", typed(api.TopFunc, api.TypeVoid, "f", block(repeat(block(), 397)...)), typed(api.TopFunc, api.TypePtr, "f", block(repeat(block(), 397)...))},
		{"a unit", node(api.TopUnit, "", typed(api.TopFunc, api.TypeVoid, "f", block(repeat(block(), 397)...))), node(api.TopUnit, "", typed(api.TopFunc, api.TypeVoid, "f", block(with(block(), 397, nothing())...)))},
	} {
		want := api.MaxTokens
		got, f := print.Text(x.full)
		if count := len(strings.Fields(got)); f != (api.Fault{}) || count != want {
			t.Errorf("%s: %d tokens, %v; want %d", x.what, count, f, want)
		}
		if x.full.Nodes[len(x.full.Nodes)-1].Kind >= api.IsNum {
			faithful(t, x.full, got)
		}
		fails(t, x.what, x.more, tooMuch)
	}
}

func TestMaxText(t *testing.T) {
	long := word("longestname_")
	// 132 of these names, with what is around and between them, come to 1983 bytes; the blanks and the comma that a number needs leave 14 for its digits.
	names := func(last api.Tree) api.Tree { return call(with(long, 132, last)...) }
	const digits13, digits14, digits15 = 9999999999999, 10000000000000, 100000000000000
	size(t, "13 digits", names(num(digits13)), 268, api.MaxText-1)
	size(t, "14 digits", names(num(digits14)), 268, api.MaxText)
	fails(t, "15 digits", names(num(digits15)), tooMuch)
	size(t, "a sign", names(node(api.IsOne, "-", num(digits14/100))), 269, api.MaxText)
	fails(t, "a sign", names(node(api.IsOne, "-", num(digits14/10))), tooMuch)
	size(t, "a long sign", names(node(api.IsStep, "--", num(digits14/1000))), 269, api.MaxText)
	fails(t, "a long sign", names(node(api.IsStep, "--", num(digits14/100))), tooMuch)
	grouped := func(n int) api.Tree { return names(behind("++", node(api.IsOne, "-", num(n)))) }
	size(t, "parentheses", grouped(99999), 272, api.MaxText)
	fails(t, "parentheses", grouped(100000), tooMuch)
	fails(t, "600 nodes", call(repeat(long, api.MaxNodes-1)...), tooMuch)

	// 104 of these globals, each with a blank behind it, are 1976 bytes.
	unit := func(last api.Tree) api.Tree {
		return node(api.TopUnit, "", with(typed(api.TopVar, api.TypeInt, "longestname_"), 104, last)...)
	}
	size(t, "a short name", unit(array("longestname", 9)), 318, api.MaxText-1)
	size(t, "a long name", unit(array("longestname_", 9)), 318, api.MaxText)
	fails(t, "a long size", unit(array("longestname_", 10)), tooMuch)
}

// TestOtherLimits: trees of MaxNodes nodes, of which MaxDeep are nested, have a text.
func TestOtherLimits(t *testing.T) {
	groups := func(count int) []api.Tree {
		var list []api.Tree
		for ; count > 20; count -= 20 {
			list = append(list, deep(20))
		}
		return append(list, deep(count))
	}
	full := call(groups(api.MaxNodes - 1)...)
	size(t, "MaxNodes", full, api.MaxNodes+2+29, 2*(api.MaxNodes+2+29)-1)
	fails(t, "MaxNodes + 1", call(groups(api.MaxNodes)...), api.Fault{Code: api.ErrMany})

	size(t, "MaxDeep", deep(api.MaxDeep), api.MaxDeep, 2*api.MaxDeep-1)
	fails(t, "MaxDeep + 1", deep(api.MaxDeep+1), tooMuch)
	// Parentheses do not count for MaxDeep.
	left, right := word("a"), word("a")
	for range api.MaxDeep - 1 {
		left = node(api.IsSet, "=", left, word("b"))
		right = node(api.IsTwo, "-", word("b"), right)
	}
	tokens := 2*api.MaxDeep - 1 + 2*(api.MaxDeep-2)
	size(t, "MaxDeep to the left", left, tokens, 2*tokens-1)
	size(t, "MaxDeep to the right", right, tokens, 2*tokens-1)
	empty := block()
	for range api.MaxDeep - 3 {
		empty = block(empty)
	}
	size(t, "MaxDeep blocks", node(api.TopUnit, "", typed(api.TopFunc, api.TypeVoid, "f", empty)), 4+2*(api.MaxDeep-2), 2*(4+2*(api.MaxDeep-2))-1+3)
}

// TestKeywords: no node that has a name may have a keyword as one.
func TestKeywords(t *testing.T) {
	named := func(name string) []api.Tree {
		return []api.Tree{
			typed(api.TopVar, api.TypeInt, name), typed(api.TopVar, api.TypePtr, name, num(1)), array(name, 3, num(1)), typed(api.TopFunc, api.TypeVoid, name, block()), typed(api.TopParam, api.TypePtr, name),
			typed(api.DoVar, api.TypeInt, name), typed(api.DoVar, api.TypePtr, name, num(1)), word(name), node(api.IsCall, name), node(api.IsCall, name, num(1)),
			// And within others.
			node(api.TopUnit, "", typed(api.TopVar, api.TypeInt, "x"), typed(api.TopFunc, api.TypeInt, "f", typed(api.TopParam, api.TypeInt, name), block())),
			node(api.IsTwo, "+", word("a"), node(api.IsOne, "-", word(name))), call(word("a"), word(name)), block(effect(node(api.IsCall, name))),
			node(api.DoFor, "", typed(api.DoVar, api.TypeInt, name), nothing(), nothing(), block()),
		}
	}
	for _, name := range strings.Fields("int void if else while do for switch case default break continue return") {
		for _, of := range named(name) {
			fails(t, name, of, tooMuch)
		}
	}
	for _, name := range strings.Fields("Int INT int_ _int ints integer voids iff i f elseif While d dos fore switches cases Default breaks next continued returns main _ a1") {
		for _, of := range named(name) {
			text, f := print.Text(of)
			if f != (api.Fault{}) {
				t.Errorf("%s: %v", name, f)
				continue
			}
			faithful(t, of, text)
		}
	}
}
