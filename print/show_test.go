package print_test

import (
	"strings"
	"testing"

	"turnery/api"
	"turnery/parse"
	"turnery/print"
	"turnery/token"
	"turnery/tree"
)

type parser = func(string) (api.Tree, api.Fault)

// prints tells the test if the text of the tree is another one.
func prints(t *testing.T, of api.Tree, want string) {
	t.Helper()
	if got, f := print.Text(of); f != (api.Fault{}) || got != want {
		t.Errorf("%v:\n got %q, %v\nwant %q", of, got, f, want)
	}
}

// fails tells the test if the tree does not come to this fault, and to no text.
func fails(t *testing.T, what string, of api.Tree, want api.Fault) {
	t.Helper()
	if got, f := print.Text(of); f != want || got != "" {
		t.Errorf("%s: got %.100q, %v; want no text, %v", what, got, f, want)
	}
}

func exprOf(t *testing.T, text string) api.Tree {
	t.Helper()
	got, f := parse.Expr(text)
	if f != (api.Fault{}) {
		t.Fatalf("%q: %v", text, f)
	}
	return got
}

func unitOf(t *testing.T, text string) api.Tree {
	t.Helper()
	got, f := parse.Unit(text)
	if f != (api.Fault{}) {
		t.Fatalf("%q: %v", text, f)
	}
	return got
}

// rewritten tells the test if the tree of the first text does not come to the other one.
func rewritten(t *testing.T, text, want string) {
	t.Helper()
	prints(t, exprOf(t, text), want)
}

// around is a text of a tree that can be parsed, or the text in one of a unit in which it may stand, and what comes from that.
func around(text string, of api.Tree) (parser, string, api.Tree) {
	unit := func(top api.Tree) api.Tree { return node(api.TopUnit, "", top) }
	function := func(kids ...api.Tree) api.Tree { return unit(typed(api.TopFunc, api.TypeVoid, "f", kids...)) }
	kind := of.Nodes[len(of.Nodes)-1].Kind
	switch {
	case kind >= api.IsNum:
		return parse.Expr, text, of
	case kind == api.TopUnit:
		return parse.Unit, text, of
	case kind == api.TopParam:
		return parse.Unit, "void f ( " + text + " ) { }", function(of, block())
	case kind < api.DoBlock:
		return parse.Unit, text, unit(of)
	case kind == api.DoCase || kind == api.DoElse:
		return parse.Unit, "void f ( ) { switch ( 0 ) { " + text + " } }", function(block(node(api.DoSwitch, "", num(0), of)))
	}
	return parse.Unit, "void f ( ) { " + text + " }", function(block(of))
}

// same tells whether the text can be parsed and comes to the tree, wherever its nodes stand.
func same(of api.Tree, text string) bool {
	parse, whole, want := around(text, of)
	got, f := parse(whole)
	if f != (api.Fault{}) {
		return false
	}
	is, f := tree.Same(got, want)
	return is && f == api.Fault{}
}

// faithful tells the test if the text of the tree is none of R4.1: tokens with single spaces between them, from which comes the tree, but would not without one of the pairs of parentheses around operands, and with no more braces than the tree needs.
func faithful(t *testing.T, of api.Tree, text string) {
	t.Helper()
	words := strings.Fields(text)
	list, f := token.Scan(text)
	if f != (api.Fault{}) || len(list) != len(words) || text != strings.Join(words, " ") {
		t.Fatalf("%q: %d tokens, %v", text, len(list), f)
	}
	if !same(of, text) {
		t.Fatalf("%q is the text of another tree than %v", text, of)
	}
	braces := 0
	for k, word := range words {
		if word == "{" {
			braces++
		}
		if word == "(" && groups(list[:k]) {
			if without := bare(words, k); same(of, without) {
				t.Fatalf("%q: %q would do", text, without)
			}
		}
	}
	if want := bracesOf(of); braces != want {
		t.Fatalf("%q: %d pairs of braces; want %d", text, braces, want)
	}
}

// groups tells whether parentheses behind these tokens stand around an operand.
func groups(ahead []api.Token) bool {
	if len(ahead) == 0 {
		return true
	}
	last := ahead[len(ahead)-1]
	switch last.Text {
	case "if", "while", "for", "switch":
		return false
	}
	return last.Kind != api.TokName
}

// bare is the text without the parenthesis that is word k, and without the one that closes it.
func bare(words []string, k int) string {
	open := 0
	for i := k; ; i++ {
		switch words[i] {
		case "(":
			open++
		case ")":
			open--
		}
		if open == 0 {
			var rest []string
			rest = append(append(append(rest, words[:k]...), words[k+1:i]...), words[i+1:]...)
			return strings.Join(rest, " ")
		}
	}
}

// bracesOf is how many pairs of braces a tree needs.
func bracesOf(of api.Tree) int {
	count := 0
	for _, n := range of.Nodes {
		switch {
		case n.Kind == api.DoBlock || n.Kind == api.DoSwitch:
			count++
		case n.Kind == api.TopVar && n.N == api.TypeArray && len(n.Kids) > 0:
			count++
		}
	}
	return count
}
