package parse

import (
	"fmt"
	"slices"
	"strings"
	"testing"

	"turnery/api"
	"turnery/tree"
)

var kindNames = map[int]string{
	api.TopUnit: "unit", api.TopVar: "var", api.TopFunc: "func", api.TopParam: "param",
	api.DoBlock: "block", api.DoVar: "local", api.DoExpr: "do", api.DoIf: "if", api.DoWhile: "while", api.DoUntil: "until", api.DoFor: "for", api.DoSwitch: "switch",
	api.DoCase: "case", api.DoElse: "default", api.DoBreak: "break", api.DoNext: "next", api.DoReturn: "return", api.DoNothing: "nothing",
	api.IsNum: "", api.IsName: "", api.IsCall: "call ", api.IsIndex: "index", api.IsOne: "one", api.IsTwo: "two", api.IsBoth: "both", api.IsPick: "pick", api.IsSet: "set", api.IsStep: "pre",
}

var typeNames = []string{":void", ":int", ":ptr", ":array"}

// show writes a tree as nested calls, a node as `call f`, `two+` or `var x:int`, with its offset.
func show(t api.Tree, offsets bool) string { return showNode(t, len(t.Nodes)-1, offsets) }

func showNode(t api.Tree, k int, offsets bool) string {
	n := t.Nodes[k]
	s := kindNames[n.Kind]
	switch n.Kind {
	case api.IsNum:
		s = fmt.Sprint(n.N)
	case api.IsStep:
		s = []string{"pre", "post"}[n.N] + n.Text
	case api.TopVar, api.TopFunc, api.TopParam, api.DoVar:
		s += " " + n.Text + typeNames[n.N]
		if n.Size > 0 {
			s += fmt.Sprint(n.Size)
		}
	default:
		s += n.Text
	}
	if offsets {
		s += fmt.Sprint("@", n.At)
	}
	var kids []string
	for _, kid := range n.Kids {
		kids = append(kids, showNode(t, kid, offsets))
	}
	if len(kids) > 0 {
		s += "(" + strings.Join(kids, ", ") + ")"
	}
	return s
}

// alike compares offsets, too.
func alike(a, b api.Tree) bool {
	return slices.EqualFunc(a.Nodes, b.Nodes, func(x, y api.Node) bool {
		return x.Kind == y.Kind && x.Text == y.Text && x.N == y.N && x.Size == y.Size && x.At == y.At && slices.Equal(x.Kids, y.Kids)
	})
}

type parser = func(string) (api.Tree, api.Fault)

// parses tells the test if the text does not come to the tree that is shown so.
func parses(t *testing.T, parse parser, text, want string) {
	t.Helper()
	got, f := parse(text)
	if f != (api.Fault{}) {
		t.Errorf("%q: %v; want %s", text, f, want)
		return
	}
	if f := tree.Check(got); f != (api.Fault{}) {
		t.Errorf("%q: the tree is not in its form: %v", text, f)
		return
	}
	if s := show(got, strings.Contains(want, "@")); s != want {
		t.Errorf("%q:\n got %s\nwant %s", text, s, want)
	}
}

// fails tells the test if the text does not come to this fault, and to no tree.
func fails(t *testing.T, parse parser, text string, code, at int) {
	t.Helper()
	got, f := parse(text)
	if f != (api.Fault{Code: code, At: at}) || len(got.Nodes) > 0 {
		t.Errorf("%.300q: %d nodes, %v; want no node, {%d %d}", text, len(got.Nodes), f, code, at)
	}
}

// within parses an action as the only one of a function, and cuts it out; its offsets count from the start of the function.
func within(text string) (api.Tree, api.Fault) {
	all, f := Unit("void f(){" + text + "}")
	if f != (api.Fault{}) {
		return api.Tree{}, f
	}
	body := all.Nodes[len(all.Nodes)-3]
	return tree.Part(all, body.Kids[0])
}
