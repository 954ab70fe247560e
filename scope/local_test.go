package scope_test

import (
	"slices"
	"strconv"
	"strings"
	"testing"

	"turnery/api"
	"turnery/scope"
)

// TestHiding: a name stands for what the innermost scope has by it.
func TestHiding(t *testing.T) {
	for _, marked := range []string{
		"int x#1; void main() { x@1 = 1; int x#2; x@2 = 2; }",
		"int x#1; void main(int x#2) { x@2 = 1; int x#3; x@3 = 2; } int y = x@1;",
		"int x#1; void f(int x#2) { x@2 = 1; } void g(int y#3) { x@1 = y@3; } void h(int x#4) { x@4 = 1; }",
		"int x#1; void main() { { int x#2; x@2 = 1; { x@2 = 2; int x#3; x@3 = 3; } x@2 = 4; } x@1 = 5; }",
		"int x#1; int y#2; void main(int y#3) { { int x#4; x@4 = y@3; { int y#5; x@4 = y@5; } y@3 = x@4; } x@1 = y@3; } int z = x@1 + y@2;",
		// A local or a parameter hides a function as well, but not from calls.
		"int f#1() { int x = f@1(); int f#2; return f@2 + f@1(); }",
		"int f#1() { return 1; } int g(int f#2) { { int f#3 = f@2; f@3 = f@1(); } return f@2; }",
		"void main() { int main#2; main@2 = 1; }",
	} {
		resolves(t, marked)
	}
}

// TestAgain: scopes side by side may each declare a name, and one within another may declare it again.
func TestAgain(t *testing.T) {
	for _, marked := range []string{
		"void main() { { int x#1; x@1 = 1; } { int x#2; x@2 = 2; } int x#3; x@3 = 3; }",
		"void main() { int x#1; { int x#2; x@2 = 1; } { int x#3; x@3 = 2; } x@1 = 3; }",
		"void f(int x#1) { x@1 = 1; } void g(int x#2) { int y#3; y@3 = x@2; } void h() { int y#4; y@4 = 1; }",
		"void f(int x#1) { int x#2; x@2 = 1; }",
		"void f(int x#1) { int x#2 = x@1; x@2 = 1; }",
		"void f() { for (int i#1 = 0; i@1; i@1++) ; for (int i#2 = 0; i@2; i@2++) ; int i#3; i@3 = 1; }",
		"void f() { for (int i#1 = 0; i@1; i@1++) { i@1 = 2; int i#2; i@2 = 3; } }",
		"void f(int i#1) { for (int i#2 = i@1; i@2; i@2++) { for (int i#3 = i@2; i@3; i@3++) i@3 = 1; i@2 = 1; } i@1 = 1; }",
		"int x#1; void f() { switch (x@1) { case 1: x@1 = 1; int x#2; x@2 = 2; { int x#3; x@3 = 3; } x@2 = 4; } x@1 = 5; }",
	} {
		resolves(t, marked)
	}
}

// TestInitial: a local is not visible in its own initial expression.
func TestInitial(t *testing.T) {
	for _, marked := range []string{
		"int x#1; void main() { int x#2 = x@1; x@2 = 1; }",
		"int x#1; void main(int x#2) { int x#3 = x@2 + (x@2 ? x@2 : -x@2); x@3 = 1; }",
		"int x#1; void main() { int x#2 = x@1; { int x#3 = x@2; { int x#4 = x@3; x@4 = 1; } x@3 = 2; } x@2 = 3; } int y = x@1;",
		"int x#1; void main() { int *y#2 = &x@1; int x#3 = *y@2 + x@1; int z#4 = x@3 + *y@2; z@4 = x@3; }",
		"int x#1; void main() { for (int x#2 = x@1 + 1; x@2; ) ; int x#3 = x@1; x@3 = 1; }",
		"int x#1; void main() { switch (x@1) { default: ; int x#2 = x@1; x@2 = 1; } }",
		"int x#1; void main() { int y#2; int x#3 = (y@2 = x@1) + f@4(x@1); x@3 = y@2; } int f#4(int x#5) { return x@5; }",
	} {
		resolves(t, marked)
	}
	faulty(t, "void main() { int x = x$; }", api.ErrNone)
	faulty(t, "void main() { int x = 1 + (x$ = 2); }", api.ErrNone)
	faulty(t, "int x() { int x = x$; return x; }", api.ErrNone)
	faulty(t, "void main() { for (int i = i$; i; i++) ; }", api.ErrNone)
}

// TestFor: what the head of a for declares is visible in the rest of the head and in the body, and not behind them.
func TestFor(t *testing.T) {
	resolves(t, "int i#1; void main() { for (int i#2 = i@1; i@2 < 3; i@2++) { i@2 = 4; { i@2 = 5; } } i@1 = 6; }")
	resolves(t, "int i#1; void main() { for (int i#2; i@2; ) if (i@2) i@2 = 4; else while (i@2) i@2--; i@1 = 6; }")
	// Without a declaration in its head, it sees what is around it.
	resolves(t, "void main() { int i#1; for (i@1 = 0; i@1 < 3; i@1++) { i@1 = 4; int i#2; i@2 = 5; } i@1 = 6; }")
	resolves(t, "void main(int n#1) { for (; n@1; n@1--) { int i#2 = n@1; i@2 = 5; } n@1 = 6; }")
	// What the body declares is not visible in the head.
	resolves(t, "int i#1; void main() { for (i@1 = 0; i@1 < 3; i@1++) { int i#2; i@2 = 5; } }")
	faulty(t, "void main() { for (int i = 0; i; i++) ; i$ = 1; }", api.ErrNone)
	faulty(t, "void main() { for (; ; i$++) int i; }", api.ErrNone)
	faulty(t, "void main() { for (; i$; ) { int i; } }", api.ErrNone)
	faulty(t, "void main() { for (i$ = 1; ; ) { int i; } }", api.ErrNone)
}

// TestSwitch: what a switch declares is visible up to its end, past the labels on the way.
func TestSwitch(t *testing.T) {
	resolves(t, "int x#1; void main() { switch (x@1) { case x@1: int x#2 = x@1; x@2 = 1; break; case x@2: x@2 = 2; { x@2 = 3; } default: if (x@2) x@2 = 4; } x@1 = 5; }")
	resolves(t, "void main(int x#1) { switch (x@1) { int x#2; case 1: x@2 = 1; switch (x@2) { case x@2: int x#3; x@3 = 2; } x@2 = 3; } switch (x@1) { default: x@1 = 4; } }")
	faulty(t, "void main() { switch (x$) { int x; } }", api.ErrNone)
	faulty(t, "void main() { switch (1) { case x$: int x; } }", api.ErrNone)
	faulty(t, "void main() { switch (1) { int x; } x$ = 1; }", api.ErrNone)
	faulty(t, "void main() { switch (1) { case 1: { int x; } case 2: x$ = 1; } }", api.ErrNone)
}

// TestBlocks: what a block declares ends with it, whatever it belongs to.
func TestBlocks(t *testing.T) {
	resolves(t, "int x#1; void main() { if (x@1) { int x#2; x@2 = 1; } else { x@1 = 2; int x#3; x@3 = 3; } x@1 = 4; }")
	resolves(t, "int x#1; void main() { if (x@1) int x#2; else int x#3; x@1 = 4; }")
	resolves(t, "int x#1; void main() { while (x@1) { int x#2; x@2 = 1; } do { int x#3; x@3 = 2; } while (x@1); while (x@1) int x#4; do int x#5; while (x@1); x@1 = 4; }")
	for _, body := range []string{
		"{ int x; } x$;", "{ { int x; } x$; }", "{ { int x; } } x$;", "{ int x; x; } { x$; }",
		"if (1) { int x; } x$;", "if (1) int x; x$;", "if (1) { int x; } else { x$; }", "if (1) int x; else x$;", "if (1) ; else { int x; } x$;",
		"while (1) { int x; } x$;", "while (x$) { int x; }", "do { int x; } while (x$);", "do int x; while (x$);", "do { int x; } while (0); x$;",
		"x$; int x;", "{ x$; } int x;", "int y = x$; int x;", "x$ = 1; { int x; }",
	} {
		faulty(t, "void main() { "+body+" }", api.ErrNone)
	}
	faulty(t, "void f(int x) { x; } void main() { x$; }", api.ErrNone)
	faulty(t, "void f() { int x; x; } void main() { x$; }", api.ErrNone)
	faulty(t, "void main() { x$; } void f(int x) { x; }", api.ErrNone)
	faulty(t, "int y = x$; void f(int x) { int y = x; }", api.ErrNone)
}

// TestDeep has as many scopes, one within the other, as a unit has room for.
func TestDeep(t *testing.T) {
	// Outside the innermost block are the unit and the function; inside it an action and what it says.
	const deep = api.MaxDeep - 5
	front, back := "", ""
	for i := range deep {
		here := strconv.Itoa(i + 1)
		front += "{ x@" + strconv.Itoa(i) + "; int x#" + here + " = x@" + strconv.Itoa(i) + "; int y" + here + "; "
		back = "x@" + here + "; } " + back
	}
	resolves(t, "int x#0; void main() { "+front+back+" x@0; }")
	front = strings.Repeat("{", deep)
	resolves(t, "int x#0; void main() "+front+"{ int x#1 = x@0; x@1; }"+strings.Repeat("}", deep))
}

// TestOffsets: where in a text the nodes stood does not matter.
func TestOffsets(t *testing.T) {
	text := "int x; void main(int y) { int x = x; { int y = x + y; x = y; } for (int x = y; x; x--) y = x; x = main(y) + read(); }"
	of := unitOf(t, text)
	want, f := scope.Names(of)
	if f != (api.Fault{}) {
		t.Fatal(f)
	}
	for k := range of.Nodes {
		of.Nodes[k].At = (k * 7919) % 2003
	}
	if got, f := scope.Names(of); f != (api.Fault{}) || !slices.Equal(got, want) {
		t.Errorf("%v, %v; want %v", got, f, want)
	}
}
