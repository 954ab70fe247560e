package types_test

import (
	"slices"
	"strings"
	"testing"

	"turnery/api"
	"turnery/types"
)

// TestNumbers has what a unit comes to as the types of its nodes.
func TestNumbers(t *testing.T) {
	for _, c := range []struct {
		text string
		want []int
	}{
		{"void main() {}", []int{0, 0, 0}},
		{"int main() {}", []int{0, 0, 0}},
		{"int *main() {}", []int{0, 0, 0}},
		{"int x; void main() { x = 1; }", []int{0, 1, 1, 1, 0, 0, 0, 0}},
		{"int a[3]; int main() { return &a[1] - a; }", []int{0, 2, 1, 1, 2, 2, 1, 0, 0, 0, 0}},
		{"int *p = &x; int x = 3; void main() {}", []int{1, 2, 0, 1, 0, 0, 0, 0}},
		{"int a[3] = {1, 2}; void main() {}", []int{1, 1, 0, 0, 0, 0}},
		{"void v(int *p) {} void main() { v(0 ? 0 + q : q); int x; } int *q;", []int{0, 0, 0, 1, 1, 2, 2, 2, 2, 0, 0, 0, 0, 0, 0, 0}},
		{"void main() { print(read()); main(); }", []int{1, 1, 0, 0, 0, 0, 0, 0}},
		{"int *f(int x) { return f(x); } void main() { f(1)[2]++; }", []int{0, 1, 2, 0, 0, 0, 1, 2, 1, 1, 1, 0, 0, 0, 0}},
	} {
		got, f := types.Of(unitOf(t, c.text))
		if f != (api.Fault{}) || !slices.Equal(got, c.want) {
			t.Errorf("%s: %v, %v; want %v", c.text, got, f, c.want)
		}
	}
}

// everyKind is a unit of nodes of every kind without a fault, whose only calls tell numbers.
const everyKind = `int g; int *h = &g; int a[2] = {1};
	int f(int n, int *m) {
		int l = n; int *k;
		{ l++; ; }
		if (n && g) return 1; else return n ? 2 : g;
		while (!m) break;
		do continue; while (a[0]);
		for (;;) ;
		for (int i = 0; i < 3; i += 1) --k;
		switch (n) { case 1: f(2, h); default: print(read()); }
		return *&g - l;
	}
	void main() {}`

// isExpr tells whether nodes of the kind have a type.
func isExpr(kind int) bool { return kind >= api.IsNum && kind <= api.IsStep }

// TestEachKind: nodes that are no expressions have no type, whatever their kind, and expressions have one.
func TestEachKind(t *testing.T) {
	of := unitOf(t, everyKind)
	got, f := types.Of(of)
	if f != (api.Fault{}) || len(got) != len(of.Nodes) {
		t.Fatalf("%v, %v", got, f)
	}
	seen := map[int]bool{}
	for k, n := range of.Nodes {
		seen[n.Kind] = true
		if isExpr(n.Kind) != (got[k] == api.TypeInt || got[k] == api.TypePtr) || !isExpr(n.Kind) && got[k] != 0 {
			t.Errorf("node %d of kind %d (%s) has the type %d", k, n.Kind, n.Text, got[k])
		}
	}
	for kind := range 50 {
		known := kind >= api.TopUnit && kind <= api.TopParam || kind >= api.DoBlock && kind <= api.DoNothing || isExpr(kind)
		if seen[kind] != known {
			t.Errorf("kind %d: the text has it: %v", kind, seen[kind])
		}
	}
}

// TestMain: a unit has a function main, without parameters.
func TestMain(t *testing.T) {
	for _, result := range letters() {
		fine(t, function(result, "main", nil, ""))
		fine(t, "int x; "+function(result, "main", nil, "")+function("i", "f", []string{"i"}, "int main; main = 1;"))
		for _, params := range lists([]string{"i", "p"}, 3)[1:] {
			faulty(t, function(result, "$main", params, ""), api.ErrForm)
			faulty(t, "int x; void f() {} "+function(result, "$main", params, " int y; y = 1; ")+"int z;", api.ErrForm)
		}
	}
	for _, text := range []string{
		"", "int x;", "int main;", "int *main;", "int main[3];", "int main = 1;", "void Main() {}", "void mai() {}", "void main_() {}", "void f() {}", "int f(int main) { int x = main; return x; }",
		"void f() { int main; main = 1; }", "int x; int f() { return x; } void g(int *p) { g(p); }",
	} {
		fails(t, text, unitOf(t, text), api.Fault{Code: api.ErrNone})
	}
	// A main that is a global is none, whatever other functions there are.
	fails(t, "no function", unitOf(t, "int main; int f(int x) { return main + x; }"), api.Fault{Code: api.ErrNone})
}

// TestCallOfMain: main is a function like others.
func TestCallOfMain(t *testing.T) {
	fine(t, "int main() { return main() + main(); }")
	fine(t, "int f() { return main(); } int main() { return f(); }")
	faulty(t, "void f() { $main(1); } void main() {}", api.ErrType)
	faulty(t, "int f() { $return main(); } int *main() {}", api.ErrType)
}

// TestOffsets: where in a text the nodes stood does not matter.
func TestOffsets(t *testing.T) {
	of := unitOf(t, everyKind)
	want, _ := types.Of(of)
	for k := range of.Nodes {
		of.Nodes[k].At = (k * 7919) % 2003
	}
	if got, f := types.Of(of); f != (api.Fault{}) || !slices.Equal(got, want) {
		t.Errorf("%v, %v; want %v", got, f, want)
	}
}

// TestDeep has expressions and actions that are nested as deep as a unit has room for.
func TestDeep(t *testing.T) {
	// Around the expression are the unit, the function, its block and the action.
	const deep = api.MaxDeep - 5
	fine(t, inWorld("l = "+strings.Repeat("- ", deep-1)+"n;"))
	fine(t, inWorld("l = "+strings.Repeat("!", deep-1)+"q;"))
	wrongType(t, "l = "+strings.Repeat("! ", deep-2)+"$- q;")
	// Each while has a block; inside the innermost one is the action.
	const blocks = (api.MaxDeep - 4) / 2
	inPlace(t, strings.Repeat("while (1) ", blocks)+"continue;")
	inPlace(t, "while (1) "+strings.Repeat("{ ", 2*blocks-2)+"break;"+strings.Repeat(" }", 2*blocks-2))
	stray(t, strings.Repeat("{ ", 2*blocks)+"$break;"+strings.Repeat(" }", 2*blocks))
	stray(t, strings.Repeat("if (1) ", blocks)+"$continue;")
}

// TestKeywords: a tree may have names that are words of the language; for types they are names like others.
func TestKeywords(t *testing.T) {
	of := unitOf(t, "int x; int f(int *y) { int x = x; return f(y) + x; } void main() {}")
	want, _ := types.Of(of)
	for k := range of.Nodes {
		switch n := &of.Nodes[k]; n.Text {
		case "x":
			n.Text = "int"
		case "y":
			n.Text = "return"
		case "f":
			n.Text = "if"
		}
	}
	if got, f := types.Of(of); f != (api.Fault{}) || len(want) == 0 || !slices.Equal(got, want) {
		t.Errorf("%v, %v; want %v", got, f, want)
	}
}
