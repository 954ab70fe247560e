package scope_test

import (
	"fmt"
	"strings"
	"testing"

	"turnery/api"
	"turnery/parse"
	"turnery/tree"
)

// wrong is a text that has a fault at the name with the $.
type wrong struct {
	text string
	code int
}

// other is the text without the mark, as that of a fault behind another one.
func (w wrong) other() string { return strings.ReplaceAll(w.text, "$", "") }

// wrongTops: globals and functions with a fault.
func wrongTops() []wrong {
	return []wrong{
		{"int rEaD; int read$;", api.ErrName}, {"int *print$;", api.ErrName}, {"int read$[3];", api.ErrName}, {"int print$ = 1;", api.ErrName},
		{"void print$() {}", api.ErrName}, {"int read$() {}", api.ErrName}, {"int *print$(int n) {}", api.ErrName},
		{"int t; int t$;", api.ErrTwice}, {"int t; int *t$;", api.ErrTwice}, {"int t = 1; int t$[3];", api.ErrTwice}, {"int t[2]; int t$ = 2;", api.ErrTwice},
		{"void t() {} int t$;", api.ErrTwice}, {"int t; void t$() {}", api.ErrTwice}, {"void t() {} void t$() {}", api.ErrTwice}, {"int t() {} int *t$(int n) {}", api.ErrTwice},
		{"int t; int t1; void t2() {} int t$; int t3;", api.ErrTwice}, {"int t; int t$; int t; int t;", api.ErrTwice},
	}
}

// wrongActions: actions with a fault in a function of a unit with the global a and the function f.
func wrongActions() []wrong {
	return []wrong{
		{"int p; int p$;", api.ErrTwice}, {"int *p; int p$ = 1;", api.ErrTwice}, {"int p = 1; { int p; } int *p$;", api.ErrTwice}, {"int p; int p$; int p;", api.ErrTwice},
		{"{ int p; { int p; } int p$; }", api.ErrTwice}, {"if (a) { int p; int p$; }", api.ErrTwice}, {"for (int p; ; ) { int p; a = p; int p$; }", api.ErrTwice}, {"for (;;) { int p; int p$; }", api.ErrTwice},
		{"switch (a) { case 1: int p; default: int p$; }", api.ErrTwice}, {"switch (a) { int p; case 1: { int p; } int p$; }", api.ErrTwice}, {"int f; int f$;", api.ErrTwice}, {"int a; int a$;", api.ErrTwice}, {"int read; int read$;", api.ErrTwice},
		{"q$;", api.ErrNone}, {"a = q$;", api.ErrNone}, {"q$ = a;", api.ErrNone}, {"{ int q; } q$ = 1;", api.ErrNone}, {"int q = q$;", api.ErrNone}, {"main$;", api.ErrNone}, {"A$;", api.ErrNone}, {"aa$;", api.ErrNone}, {"read$;", api.ErrNone}, {"print$ = 1;", api.ErrNone},
		{"f$;", api.ErrNone}, {"f$ = 1;", api.ErrNone}, {"a = f(1) + f$;", api.ErrNone}, {"&f$;", api.ErrNone}, {"f$[0];", api.ErrNone}, {"f(f$);", api.ErrNone}, {"int f = f$;", api.ErrNone}, {"{ int f; } f$;", api.ErrNone},
		{"q$();", api.ErrNone}, {"a = q$(1, 2);", api.ErrNone}, {"a$();", api.ErrNone}, {"a$(a);", api.ErrNone}, {"int q; q$();", api.ErrNone}, {"int a; a$();", api.ErrNone}, {"for (int q; q$(); ) ;", api.ErrNone}, {"F$();", api.ErrNone}, {"reads$();", api.ErrNone}, {"Print$(1);", api.ErrNone},
	}
}

// inUnit puts each list of actions into a function of its own.
func inUnit(actions ...string) string {
	text := "int a; int f(int n) { return n; } "
	for i, list := range actions {
		text += fmt.Sprintf("void main%d() { %s } ", i, list)
	}
	return text
}

func TestFaults(t *testing.T) {
	for _, w := range wrongTops() {
		faulty(t, w.text, w.code)
		faulty(t, "int a; void f() {} "+w.text+" int b;", w.code)
	}
	for _, w := range wrongActions() {
		faulty(t, strings.Replace(inUnit(w.text), "main0", "main", 1), w.code)
		faulty(t, inUnit("", "a = f(a);", w.text, ""), w.code)
	}
}

// TestWrongParams: the parameters of a function are in a scope, and its body is in another.
func TestWrongParams(t *testing.T) {
	faulty(t, "void f(int p, int p$) {}", api.ErrTwice)
	faulty(t, "void f(int p, int *p$) {}", api.ErrTwice)
	faulty(t, "void f(int *p, int q, int p$) { int p; }", api.ErrTwice)
	faulty(t, "void f(int p, int p$, int p) {}", api.ErrTwice)
	faulty(t, "void f(int f, int f$) {}", api.ErrTwice)
	faulty(t, "int p; void f(int p) { int p; { int p; } int p$; }", api.ErrTwice)
	resolves(t, "void f(int p#1) { int p#2; p@2 = 1; } void g(int p#3, int q#4) { p@3 = q@4; int q#5; q@5 = p@3; }")
}

// TestWrongInitials: names in the initial values of globals.
func TestWrongInitials(t *testing.T) {
	faulty(t, "int x = y$;", api.ErrNone)
	faulty(t, "int x = f$; void f() {}", api.ErrNone)
	faulty(t, "int x = f$(); int f;", api.ErrNone)
	faulty(t, "int x = x$();", api.ErrNone)
	faulty(t, "int *x = &y$; int z;", api.ErrNone)
	faulty(t, "int x[3] = {1, x[0], y$};", api.ErrNone)
	faulty(t, "void f(int y) {} int x = f(y$);", api.ErrNone)
}

// TestTwoTops: of two faults of globals and functions that of the first one counts.
func TestTwoTops(t *testing.T) {
	for _, one := range wrongTops() {
		for _, two := range wrongTops() {
			faulty(t, one.text+" "+two.other(), one.code)
		}
	}
	faulty(t, "int read$; int read;", api.ErrName)
	faulty(t, "void print$() {} void print() {}", api.ErrName)
	faulty(t, "int t; int read$; int t;", api.ErrName)
	faulty(t, "int t; int t$; int read;", api.ErrTwice)
	faulty(t, "int t; int u; int u$; int t;", api.ErrTwice)
}

// TestTopsFirst: faults of globals and functions come ahead of those within them.
func TestTopsFirst(t *testing.T) {
	for _, top := range wrongTops() {
		for _, w := range wrongActions() {
			faulty(t, inUnit(w.other())+top.text, top.code)
			faulty(t, top.text+inUnit(w.other()), top.code)
		}
		faulty(t, "int x = q; "+top.text, top.code)
		faulty(t, "void g(int x, int x) {} "+top.text, top.code)
	}
	// The numbers of the nodes below it are smaller.
	faulty(t, "int t; void t$() { q; int x; int x; }", api.ErrTwice)
	faulty(t, "void read$(int x, int x) { q; }", api.ErrName)
	faulty(t, "int read$ = q;", api.ErrName)
}

// TestTwoActions: of two faults in functions that of the first one in the text counts.
func TestTwoActions(t *testing.T) {
	for _, one := range wrongActions() {
		for _, two := range wrongActions() {
			faulty(t, inUnit(one.text+" "+two.other()), one.code)
			faulty(t, inUnit(one.text, two.other()), one.code)
			faulty(t, inUnit("{ "+one.text+" } "+two.other()), one.code)
			faulty(t, inUnit("if (1) { "+one.text+" } else { "+two.other()+" }"), one.code)
		}
		faulty(t, "void g(int p, int p$) { "+one.other()+" } "+inUnit(), api.ErrTwice)
		faulty(t, "void g() { "+one.text+" } void h(int p, int p) {} "+inUnit(), one.code)
		faulty(t, "int x = q$; "+inUnit(one.other()), api.ErrNone)
		faulty(t, inUnit(one.text)+"int x = q;", one.code)
	}
}

// TestOrderInActions: the parts of an action and of an expression are looked at in the order of the text.
func TestOrderInActions(t *testing.T) {
	for _, body := range []string{
		"q$ + r;", "q$ = r;", "q$ += r = s;", "q$ && r || s;", "q$ ? r : s;", "a ? q$ : r;", "q$[r];", "a[q$] + r;", "(a + q$) * r;", "-q$ * -r;", "a + (q$ - (r + s));", "q$++ + ++r;",
		// A call comes ahead of its arguments, from the first to the last.
		"q$(r);", "q$(r(s), u);", "f(q$(r), s);", "f(q$, r);", "f(a, q$, r());", "f(q$ = r);", "f(f(q$), r);", "q$() + r;", "a$(q);", "read(q$, r);", "print(q$()) + r;", "f(f$, q);",
		"if (q$) r; else s;", "if (a) q$; else r;", "while (q$) r;", "do q$; while (r);", "do { { q$; } r; } while (s);", "for (q$; r; s) u;", "for (; q$; r) s;", "for (; ; q$) r;", "for (int i = q$; r; s) u;", "for (int i; i; i = q$) r;",
		"switch (q$) { case r: s; }", "switch (a) { case q$: r; case s: ; }", "switch (a) { q$; case r: s; }", "return q$ + r;", "{ { q$; } { r; } } s;",
		// A local comes behind its initial expression.
		"int q = q$ + r;", "int i; int i = q$;", "int i = q$(i); int i;", "int i; int i = (q$ = 1) + f;",
	} {
		faulty(t, inUnit(body), api.ErrNone)
	}
	faulty(t, inUnit("int i; int i$ = a; q;"), api.ErrTwice)
	faulty(t, inUnit("int i; for (int i = i; i; ) ; int i$ = i; q;"), api.ErrTwice)
	faulty(t, "int x = f$(q); int f = r;", api.ErrNone)
	faulty(t, "int x[2] = {q$, r}; int y = s;", api.ErrNone)
}

// partsOf is each part of a tree by itself.
func partsOf(t *testing.T, of api.Tree) []api.Tree {
	t.Helper()
	var list []api.Tree
	for k := range of.Nodes {
		part, f := tree.Part(of, k)
		if f != (api.Fault{}) {
			t.Fatal(f)
		}
		list = append(list, part)
	}
	return list
}

// everyKind is a unit of nodes of every kind, with all faults that names can have.
const everyKind = "int g; int g; int read; int a[2] = {h}; int f(int n, int n) { int l = l; int l; { l++; ; } if (n && u) return 1; else return n ? 2 : g; while (!n) break; do continue; while (b[0]); for (int i = 0; i < 3; i += 1) --m; switch (n) { case 1: v(2); default: print(read()); } }"

// TestNoUnit: a tree whose last node is of another kind than TopUnit has no names, whatever else is wrong with them.
func TestNoUnit(t *testing.T) {
	kinds := map[int]bool{}
	for _, part := range partsOf(t, unitOf(t, everyKind)) {
		last := part.Nodes[len(part.Nodes)-1]
		if last.Kind == api.TopUnit {
			continue
		}
		kinds[last.Kind] = true
		fails(t, fmt.Sprint("a part of kind ", last.Kind), part, api.Fault{Code: api.ErrState})
	}
	if len(kinds) != 3+14+10 {
		t.Errorf("%d kinds of parts", len(kinds))
	}
	for _, text := range []string{"1", "x", "f()", "read()", "x = y"} {
		of, _ := parse.Expr(text)
		fails(t, text, of, api.Fault{Code: api.ErrState})
	}
}

// TestFaultsOfFormFirst: what is wrong with the form of a tree comes ahead of what its last node is, and of its names.
func TestFaultsOfFormFirst(t *testing.T) {
	x, one := api.Node{Kind: api.IsName, Text: "x"}, api.Node{Kind: api.IsNum, N: 1}
	fails(t, "no nodes", api.Tree{}, api.Fault{Code: api.ErrMany})
	fails(t, "too many nodes", api.Tree{Nodes: make([]api.Node, api.MaxNodes+1)}, api.Fault{Code: api.ErrMany})
	fails(t, "no kind", api.Tree{Nodes: []api.Node{x, {Kind: 77}}}, api.Fault{Code: api.ErrKind, At: 1})
	fails(t, "two names", api.Tree{Nodes: []api.Node{x, x}}, api.Fault{Code: api.ErrForm, At: 1})
	fails(t, "no name", api.Tree{Nodes: []api.Node{{Kind: api.IsName}}}, api.Fault{Code: api.ErrName})
	fails(t, "a unit of a name", api.Tree{Nodes: []api.Node{x, {Kind: api.TopUnit, Kids: []int{0}}}}, api.Fault{Code: api.ErrForm, At: 1})
	fails(t, "a unit of one of two", api.Tree{Nodes: []api.Node{x, {Kind: api.TopVar, Text: "x", N: api.TypeInt}, {Kind: api.TopUnit, Kids: []int{1}}}}, api.Fault{Code: api.ErrForm, At: 2})
	deep := api.Tree{Nodes: []api.Node{one}}
	for k := range api.MaxDeep {
		deep.Nodes = append(deep.Nodes, api.Node{Kind: api.IsOne, Text: "-", Kids: []int{k}})
	}
	fails(t, "too deep", deep, api.Fault{Code: api.ErrMuch})
	deep.Nodes = append(deep.Nodes, api.Node{Kind: api.TopVar, Text: "read", N: api.TypeInt, Kids: []int{api.MaxDeep}}, api.Node{Kind: api.TopUnit, Kids: []int{api.MaxDeep + 1}})
	fails(t, "a unit too deep", deep, api.Fault{Code: api.ErrMuch})
	// The last node of the list is wrong in its form, and all others in their names.
	for _, text := range []string{everyKind, "int read;", "int x; int x;", "void f(int x, int x) {}", "int x = y;", "int x = x();"} {
		for _, part := range partsOf(t, unitOf(t, text)) {
			last := len(part.Nodes) - 1
			part.Nodes[last].At = -1
			fails(t, "a wrong offset in "+text, part, api.Fault{Code: api.ErrRange, At: last})
			part.Nodes[last].Kids = append(part.Nodes[last].Kids, last)
			if want := tree.Check(part); want.Code != api.ErrForm && want.Code != api.ErrSize {
				t.Fatal(want)
			} else {
				fails(t, "wrong kids in "+text, part, want)
			}
			part.Nodes[last].Kind = 0
			fails(t, "no kind in "+text, part, api.Fault{Code: api.ErrKind, At: last})
		}
	}
}
