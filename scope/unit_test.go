package scope_test

import (
	"slices"
	"strconv"
	"strings"
	"testing"

	"turnery/api"
	"turnery/scope"
)

// TestNumbers has what a unit comes to as the numbers of its nodes.
func TestNumbers(t *testing.T) {
	for _, c := range []struct {
		text string
		want []int
	}{
		{"", []int{-1}},
		{"int x;", []int{0, -1}},
		{"int x = 1;", []int{-1, 1, -1}},
		{"int x; void main() { int x = x; }", []int{0, 0, 2, -1, 4, -1}},
		{"int f(int x) { return x; }", []int{0, 0, -1, -1, 4, -1}},
		{"void main() { f(); } void f() {}", []int{5, -1, -1, 3, -1, 5, -1}},
		{"void main() { print(read()); }", []int{-1, -1, -1, -1, 4, -1}},
	} {
		got, f := scope.Names(unitOf(t, c.text))
		if f != (api.Fault{}) || !slices.Equal(got, c.want) {
			t.Errorf("%s: %v, %v; want %v", c.text, got, f, c.want)
		}
	}
}

// TestUnitScope: globals and functions are visible in the whole unit, wherever they are declared.
func TestUnitScope(t *testing.T) {
	for _, marked := range []string{
		"int x#1; void main() { x@1 = 2; }",
		"void main() { x@1 = 2; } int x#1;",
		"int *p#1; void main() { *p@1 = a@2[0]; } int a#2[3];",
		"int f#1() { return 1; } int main() { return f@1(); }",
		"int main() { return f@1(); } int f#1() { return 1; }",
		"int f#1(int n#2) { return n@2 ? g@3(n@2 - 1) : 0; } int g#3(int n#4) { return f@1(n@4); }",
		"int f#1(int n#2) { return f@1(n@2); }",
		"void main#1() { main@1(); }",
		// The initial values of globals are in the scope of the unit, too: ahead of, at and behind what they name.
		"int x#1 = 1; int y#2 = x@1 + 1;",
		"int y#2 = x@1 + 1; int x#1 = 1;",
		"int x#1 = x@1;",
		"int a#1[3] = {x@2, a@1[0], f@3(b@4)}; int x#2; int f#3(int x#5) { return x@5; } int b#4[1] = {&a@1[1]};",
		"int x#1 = f@2(read@-()) + print@-(x@1); int f#2(int n#3) { return n@3; }",
		// What a call names is a function, whatever else has its name.
		"int f#1() { return 1; } int main() { int f#2 = f@1(); f@2 = f@1() + f@2; return f@2; }",
		"int f#1(int f#2) { return f@2 ? f@1(f@2 - 1) : f@2; }",
		"int g#1(int f#2) { return f@3(f@2); } int f#3(int g#4) { return g@1(g@4); }",
	} {
		resolves(t, marked)
	}
}

// TestPredefined: calls of read and of print stand for nothing; locals and parameters may have their names.
func TestPredefined(t *testing.T) {
	for _, marked := range []string{
		"int main() { print@-(1); return read@-(); }",
		"int main() { print@-(print@-(read@-()) + read@-(read@-())); return 0; }",
		"int main() { int read#1 = read@-(); print@-(read@1); return read@1 + read@-(); }",
		"int main(int print#1, int *read#2) { print@-(print@1); { int print#3 = print@1; print@-(print@3); } return read@2[read@-()]; }",
		"int reads#1; void Print#2() { Print@2(reads@1); } int Read#3; int rea#4 = Read@3; int print_#5 = rea@4;",
	} {
		resolves(t, marked)
	}
}

// TestKindsOfNames: names stand for globals, parameters and locals of each type.
func TestKindsOfNames(t *testing.T) {
	resolves(t, "int i#1; int *p#2; int a#3[2]; int f#4(int n#5, int *q#6) { int l#7; int *r#8; return i@1 + *p@2 + a@3[0] + n@5 + *q@6 + l@7 + *r@8 + f@4(l@7, r@8); }")
}

// TestOtherNames: names are one only if all their bytes are the same.
func TestOtherNames(t *testing.T) {
	resolves(t, "int x#1; int X#2; int _x#3; int x_#4; int x1#5; int xx#6; int y#7 = x@1 + X@2 + _x@3 + x_@4 + x1@5 + xx@6;")
	resolves(t, "int abcdefghijkl#1; int abcdefghijkm#2; int bbcdefghijkl#3; int abcdefghijk#4; int y = abcdefghijkl@1 + abcdefghijkm@2 + bbcdefghijkl@3 + abcdefghijk@4;")
}

// TestEachKind: nodes that neither declare nor name anything stand for nothing, whatever their kind.
func TestEachKind(t *testing.T) {
	of := resolves(t, `int g#1; int a#2[2] = {1};
		int f#3(int n#4) {
			int l#5 = n@4;
			{ l@5++; ; }
			if (n@4 && g@1) return 1; else return n@4 ? 2 : g@1;
			while (!n@4) break;
			do continue; while (a@2[0]);
			for (;;) ;
			for (int i#6 = 0; i@6 < 3; i@6 += 1) --g@1;
			switch (n@4) { case 1: f@3(2); default: print@-(read@-()); }
			return *&g@1 - l@5;
		}`)
	seen := map[int]bool{}
	for _, n := range of.Nodes {
		seen[n.Kind] = true
	}
	for kind := range 50 {
		known := kind >= api.TopUnit && kind <= api.TopParam || kind >= api.DoBlock && kind <= api.DoNothing || kind >= api.IsNum && kind <= api.IsStep
		if seen[kind] != known {
			t.Errorf("kind %d: the text has it: %v", kind, seen[kind])
		}
	}
}

// TestNumbersOfNames: that a unit has no more than so many globals, functions and parameters is no matter of names.
func TestNumbersOfNames(t *testing.T) {
	text, sum := "", "0"
	for i := range 3 * api.MaxGlobals {
		name := strconv.Itoa(i)
		text += "int a" + name + "#" + name + "; "
		sum += "+a" + name + "@" + name
	}
	resolves(t, text+"int f() { return "+sum+"; }")
	text, sum = "int f(", "0"
	for i := range 3 * api.MaxParams {
		name := strconv.Itoa(i)
		text += strings.Repeat(", ", min(i, 1)) + "int p" + name + "#" + name
		sum += "+p" + name + "@" + name
	}
	resolves(t, text+") { return "+sum+"; }")
	text = ""
	for i := range 3 * api.MaxFuncs {
		name := strconv.Itoa(i)
		text += "void f" + name + "#" + name + "() { f" + strconv.Itoa(29-i) + "@" + strconv.Itoa(29-i) + "(); } "
	}
	resolves(t, text)
}
