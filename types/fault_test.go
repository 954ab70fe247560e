package types_test

import (
	"fmt"
	"strings"
	"testing"

	"turnery/api"
	"turnery/parse"
	"turnery/scope"
	"turnery/tree"
)

// wrong is a text that has a fault at the node with the $.
type wrong struct {
	text string
	code int
}

// other is the text without the mark, as that of a fault behind another one.
func (w wrong) other() string { return strings.ReplaceAll(w.text, "$", "") }

// wrongActions: actions with a fault in the test's world, one or more for each row of the chapter and for each sentence of it.
func wrongActions() []wrong {
	return []wrong{
		{"$v(1);", api.ErrType}, {"$w();", api.ErrType}, {"$w(p);", api.ErrType}, {"$w(v());", api.ErrType}, {"$read(1);", api.ErrType}, {"$print();", api.ErrType}, {"$print(p);", api.ErrType},
		{"i$[1];", api.ErrType}, {"p$[p];", api.ErrType}, {"$-p;", api.ErrType}, {"$~p;", api.ErrType}, {"$!v();", api.ErrType}, {"$*i;", api.ErrType}, {"$&p;", api.ErrType}, {"$&a;", api.ErrType}, {"$&n;", api.ErrType}, {"$&l;", api.ErrType}, {"$&1;", api.ErrType},
		{"i $== p;", api.ErrType}, {"p $< i;", api.ErrType}, {"p $+ q;", api.ErrType}, {"i $- p;", api.ErrType}, {"p $* i;", api.ErrType}, {"v() $|| i;", api.ErrType}, {"p $&& v();", api.ErrType},
		{"v() $? i : i;", api.ErrType}, {"i $? i : p;", api.ErrType}, {"i $? v() : v();", api.ErrType},
		{"i $= p;", api.ErrType}, {"a $= p;", api.ErrType}, {"1 $= 2;", api.ErrType}, {"p $-= q;", api.ErrType}, {"i $+= p;", api.ErrType}, {"p $*= 2;", api.ErrType}, {"a$++;", api.ErrType}, {"$--fi();", api.ErrType},
		{"{ int $x = p; }", api.ErrType}, {"{ int *$x = i; }", api.ErrType}, {"$if (v()) ;", api.ErrType}, {"$while (v()) ;", api.ErrType}, {"$do ; while (v());", api.ErrType}, {"$for (; v(); ) ;", api.ErrType}, {"$switch (p) { }", api.ErrType}, {"switch (i) { $case p: }", api.ErrType},
		{"$return 1;", api.ErrType}, {"$return v();", api.ErrType}, {"$break;", api.ErrState}, {"$continue;", api.ErrState}, {"switch (i) { $continue; }", api.ErrState},
	}
}

// wrongTops: globals and functions with a fault.
func wrongTops() []wrong {
	list := []wrong{
		{"int $g = p;", api.ErrType}, {"int *$g = i;", api.ErrType}, {"int $g = v();", api.ErrType}, {"int $g[2] = {1, p};", api.ErrType}, {"int g = $-p;", api.ErrType}, {"int g[2] = {fi(), $*i};", api.ErrType},
		{"int g() { $return; }", api.ErrType}, {"int g() { $return p; }", api.ErrType}, {"int *g() { $return 1; }", api.ErrType}, {"int *g() { $return v(); }", api.ErrType},
	}
	for _, w := range wrongActions() {
		list = append(list, wrong{"void g(int n, int *q) { int l; " + w.text + " }", w.code})
	}
	return list
}

func TestFaults(t *testing.T) {
	for _, w := range wrongActions() {
		faulty(t, inWorld(w.text), w.code)
		faulty(t, inWorld("l = n; { "+w.text+" } p = q;"), w.code)
	}
	for _, w := range wrongTops() {
		faulty(t, world+w.text+" void main() {}", w.code)
		faulty(t, w.text+" void main() {} "+world, w.code)
	}
}

// TestTwoActions: of two faults that of the first node in the list counts.
func TestTwoActions(t *testing.T) {
	for _, one := range wrongActions() {
		for _, two := range wrongActions() {
			faulty(t, inWorld(one.text+" "+two.other()), one.code)
			faulty(t, inWorld("if (i) { "+one.text+" } else { "+two.other()+" }"), one.code)
		}
	}
}

// TestTwoTops: faults in different globals and functions, too, count in the order of the list.
func TestTwoTops(t *testing.T) {
	for i, one := range wrongTops() {
		for k, two := range wrongTops() {
			if (i+k)%3 == 0 || i < 10 && k < 10 {
				faulty(t, world+one.text+" void main() {} "+strings.Replace(two.other(), "g", "h", 1), one.code)
			}
		}
	}
}

// TestOrderInActions: a node is looked at behind its kids, from the first to the last.
func TestOrderInActions(t *testing.T) {
	for _, actions := range []string{
		"$-p + -q;", "i + $-q * *i;", "v() + $-p;", "(i + $-p) + v();", "(p $+ q) * (p + q);", "-(p $+ q);", "- - $-p;", "!($!v());", "(v() $? i : i) = -p;", "i = p $= 1;", "1 = $-p;", "v() = v() $+ 1;", "(v() $? 1 : 2) ? -p : v();", "i ? v() : $-p;", "v() ? i : p $* q;",
		"w($-p, -q);", "w(i, $-p);", "w(p, $w(p));", "w($w(p), p);", "print(p + ($-q));", "read($read(1));", "i[$-p];", "i[v() $+ 1];", "(i$[1])[p];", "a$[p][i[1]] + -p;",
		"if ($-p) -q;", "if ($-p) break; else continue;", "while ($-p) -q;", "do $-p; while (-q);", "do ; while ($-p);", "for ($-p; -q; i[1]) ;", "for (; $-p; -q) *i;", "for (; v(); $-p) *i;", "for (; v(); ) $-p;", "for (; i; i) $-p;", "for (int x = $-p; x[1]; ) ;", "for (int $x = p; x[1]; ) ;",
		"switch (p) { case $-q: }", "switch ($-p) { case q: }", "switch (p) { $case q: -p; }", "switch (p) { i; $-p; case q: }", "switch (p) { case 1: $-p; case q: }",
		"int x = $-p;", "int $x = p; -p;", "int *x = $-p + q;", "return $-p;", "return v($-p);", "return $v(1);", "{ { $-p; } -q; } *i;",
		// The condition of an action is looked at with the action, behind all that is within it.
		"if (v()) $-p;", "if (v()) ; else $-p;", "while (v()) $-p;", "do $-p; while (v());", "if (v()) $return 1;",
	} {
		wrongType(t, actions)
	}
	for _, actions := range []string{
		"if (v()) $break;", "if (v()) ; else $continue;", "switch (p) { $continue; }", "switch (p) { case 1: $continue; case q: ; }", "{ $break; } -p;", "$continue; int x = p;", "if (i) $break; else -p;",
	} {
		stray(t, actions)
	}
	wrongType(t, "$-p; break;")
	wrongType(t, "switch (i) { $case p: continue; }")
	wrongType(t, "int $x = p; continue;")
	wrongType(t, "if ($-p) break;")
	wrongType(t, "$if (v()) ; break;")
}

// TestMainLast: what is wrong with main comes behind what is wrong with any node.
func TestMainLast(t *testing.T) {
	for _, w := range wrongTops() {
		faulty(t, world+w.text, w.code)
		faulty(t, world+w.text+" void main(int x) {}", w.code)
		faulty(t, world+"void main(int x) {} "+w.text, w.code)
		faulty(t, "int main; "+w.text+" "+world, w.code)
	}
	for _, w := range wrongActions() {
		faulty(t, world+"void main(int n, int *q) { int l; "+w.text+" }", w.code)
	}
}

// wrongScopes: globals and functions with a fault of names.
func wrongScopes() []wrong {
	return []wrong{
		{"int $read;", api.ErrName}, {"void $print() {}", api.ErrName}, {"int $i;", api.ErrTwice}, {"int s; void $s() {}", api.ErrTwice}, {"void s(int x, int $x) {}", api.ErrTwice}, {"void s() { int x; int $x; }", api.ErrTwice},
		{"int s = $u;", api.ErrNone}, {"int s = $fi;", api.ErrNone}, {"void s() { i = $u; }", api.ErrNone}, {"void s() { $u(); }", api.ErrNone}, {"void s() { $p(); }", api.ErrNone}, {"void s() { int x = $x; }", api.ErrNone},
	}
}

// TestNamesFirst: faults of names come ahead of all those of types, wherever they are.
func TestNamesFirst(t *testing.T) {
	for _, one := range wrongScopes() {
		faulty(t, world+one.text, one.code)
		faulty(t, world+one.text+" void main(int x) {}", one.code)
		for _, two := range wrongTops() {
			faulty(t, world+two.other()+" "+one.text, one.code)
			faulty(t, world+one.text+" "+two.other(), one.code)
		}
		for _, two := range wrongScopes() {
			text := world + one.other() + " " + strings.ReplaceAll(two.other(), "s", "ss") + " void main(int x) { break; -p; }"
			of := unitOf(t, text)
			_, want := scope.Names(of)
			if want.Code == api.OK {
				t.Fatalf("%s: no fault", text)
			}
			fails(t, text, of, want)
		}
	}
}

// partsOf is each part of a tree by itself.
func partsOf(t *testing.T, of api.Tree) []api.Tree {
	t.Helper()
	var list []api.Tree
	for k := range of.Nodes {
		part, f := tree.Part(of, k)
		if f != (api.Fault{}) {
			t.Fatal(f)
		}
		list = append(list, part)
	}
	return list
}

// TestNoUnit: a tree whose last node is of another kind than TopUnit has no types, whatever else is wrong with them.
func TestNoUnit(t *testing.T) {
	kinds := map[int]bool{}
	for _, part := range append(partsOf(t, unitOf(t, everyKind)), partsOf(t, unitOf(t, inWorld("-p; v() + 1; break; return q; int x = p; if (v()) ;")))...) {
		last := part.Nodes[len(part.Nodes)-1]
		if last.Kind == api.TopUnit {
			continue
		}
		kinds[last.Kind] = true
		fails(t, fmt.Sprint("a part of kind ", last.Kind), part, api.Fault{Code: api.ErrState})
	}
	if len(kinds) != 3+14+10 {
		t.Errorf("%d kinds of parts", len(kinds))
	}
	for _, text := range []string{"1", "x", "f()", "read()", "read(1)", "x = y", "-&x"} {
		of, _ := parse.Expr(text)
		fails(t, text, of, api.Fault{Code: api.ErrState})
	}
}

// TestFaultsOfFormFirst: what is wrong with the form of a tree comes ahead of its types.
func TestFaultsOfFormFirst(t *testing.T) {
	x, one := api.Node{Kind: api.IsName, Text: "x"}, api.Node{Kind: api.IsNum, N: 1}
	fails(t, "no nodes", api.Tree{}, api.Fault{Code: api.ErrMany})
	fails(t, "too many nodes", api.Tree{Nodes: make([]api.Node, api.MaxNodes+1)}, api.Fault{Code: api.ErrMany})
	fails(t, "no kind", api.Tree{Nodes: []api.Node{x, {Kind: 77}}}, api.Fault{Code: api.ErrKind, At: 1})
	fails(t, "two units", api.Tree{Nodes: []api.Node{{Kind: api.TopUnit}, {Kind: api.TopUnit}}}, api.Fault{Code: api.ErrForm, At: 1})
	fails(t, "no name", api.Tree{Nodes: []api.Node{{Kind: api.IsName}}}, api.Fault{Code: api.ErrName})
	fails(t, "a unit of a name", api.Tree{Nodes: []api.Node{x, {Kind: api.TopUnit, Kids: []int{0}}}}, api.Fault{Code: api.ErrForm, At: 1})
	fails(t, "a sign that is none", api.Tree{Nodes: []api.Node{one, {Kind: api.IsOne, Text: "+", Kids: []int{0}}}}, api.Fault{Code: api.ErrText, At: 1})
	deep := api.Tree{Nodes: []api.Node{one}}
	for k := range api.MaxDeep {
		deep.Nodes = append(deep.Nodes, api.Node{Kind: api.IsOne, Text: "*", Kids: []int{k}})
	}
	deep.Nodes = append(deep.Nodes, api.Node{Kind: api.TopVar, Text: "x", N: api.TypeInt, Kids: []int{api.MaxDeep}}, api.Node{Kind: api.TopUnit, Kids: []int{api.MaxDeep + 1}})
	fails(t, "a unit too deep", deep, api.Fault{Code: api.ErrMuch})
	// The last node is wrong in its form, and others in their types.
	for _, w := range append(wrongTops(), wrongScopes()...) {
		for _, part := range partsOf(t, unitOf(t, world+w.other())) {
			last := len(part.Nodes) - 1
			part.Nodes[last].At = -1
			fails(t, "a wrong offset in "+w.text, part, api.Fault{Code: api.ErrRange, At: last})
			part.Nodes[last].Kind = 0
			fails(t, "no kind in "+w.text, part, api.Fault{Code: api.ErrKind, At: last})
		}
	}
}
