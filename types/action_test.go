package types_test

import (
	"strings"
	"testing"

	"turnery/api"
)

// needs tells the test if actions in which an X stands for an expression take other types there than the letters; the node with the $ is wrong otherwise.
func needs(t *testing.T, actions, takes string) {
	t.Helper()
	for _, letter := range letters() {
		for _, e := range someOf(letter) {
			text := inWorld(strings.ReplaceAll(actions, "X", e))
			if strings.Contains(takes, letter) {
				fine(t, strings.ReplaceAll(text, "$", ""))
			} else {
				faulty(t, text, api.ErrType)
			}
		}
	}
}

// TestInitialOfLocal: the initial value of a local is of its type.
func TestInitialOfLocal(t *testing.T) {
	needs(t, "int $x = X;", "i")
	needs(t, "int *$x = X;", "p")
	needs(t, "for (int $x = X; ; ) ;", "i")
	needs(t, "for (int *$x = X; ; ) ;", "p")
	needs(t, "{ { int $l = X; } }", "i")
	needs(t, "switch (1) { int *$l = X; }", "p")
	needs(t, "switch (1) { case 1: int $l = X; }", "i")
	fine(t, inWorld("int x; int *y; for (int z; ; ) ; for (int *z; ; ) ;"))
	// The initial value does not see the variable itself.
	fine(t, "int *x; void main() { int x = *x; x = 1; }")
	fine(t, "int x; void main() { int *x = &x; x = 1 + x; }")
	faulty(t, "int *x; void main() { int $x = x; }", api.ErrType)
	faulty(t, "int x; void main() { int *$x = x; }", api.ErrType)
	faulty(t, "int x[2]; void main() { int $x = x; }", api.ErrType)
	fine(t, "int x[2]; void main() { int *x = x; }")
}

// TestInitialOfGlobal: the initial value of a global is of its type, and those of an array are numbers.
func TestInitialOfGlobal(t *testing.T) {
	rest := "; int i; int *p; int a[3]; void v() {} int fi() { return 1; } int *fp() { return a; } void main() {}"
	of := func(letter string) []string {
		switch letter {
		case "i":
			return []string{"1", "i", "*p", "a[0]", "fi()", "read()", "(i = 1)", "p - a"}
		case "p":
			return []string{"p", "a", "fp()", "&i", "&a[1]", "(p = a)", "p + 1"}
		}
		return []string{"v()", "(v())"}
	}
	for _, form := range []struct{ text, takes string }{
		{"int $x = X", "i"}, {"int *$x = X", "p"}, {"int $x[1] = {X}", "i"}, {"int $x[3] = {X}", "i"}, {"int $x[3] = {1, X}", "i"}, {"int $x[3] = {X, 1, 2}", "i"}, {"int $x[3] = {1, 2, X}", "i"}, {"int y = 1; int $x[200] = {1, 2, X, X}", "i"},
	} {
		for _, letter := range letters() {
			for _, e := range of(letter) {
				text := strings.ReplaceAll(form.text, "X", e)
				if strings.Contains(form.takes, letter) {
					fine(t, strings.ReplaceAll(text, "$", "")+rest)
				} else {
					faulty(t, text+rest, api.ErrType)
					faulty(t, rest[2:]+text+";", api.ErrType)
				}
			}
		}
	}
	fine(t, "int x; int *y; int z[3]; int u[3] = {}; void main() {}")
	// A global sees itself.
	fine(t, "int x = x; int *y = y; int z[2] = {z[0], *z}; void main() {}")
	faulty(t, "int $z[2] = {z}; void main() {}", api.ErrType)
}

// TestConditions: the condition of an action is a value, of whichever type.
func TestConditions(t *testing.T) {
	needs(t, "$if (X) ;", "ip")
	needs(t, "$if (X) ; else ;", "ip")
	needs(t, "$if (X) { int x; } else { int x; }", "ip")
	needs(t, "$while (X) ;", "ip")
	needs(t, "$do ; while (X);", "ip")
	needs(t, "$do { int x; } while (X);", "ip")
	needs(t, "$for (; X; ) ;", "ip")
	needs(t, "$for (int x = 1; X; x++) { x--; }", "ip")
	needs(t, "$for (i = 0; X; i++) i--;", "ip")
	fine(t, inWorld("for (; ; ) ;"))
	fine(t, inWorld("for (v(); ; v()) v();"))
	fine(t, inWorld("for (int *x = p; ; x++) { break; }"))
}

// TestNoConditions: other parts of actions may be calls of functions without a result.
func TestNoConditions(t *testing.T) {
	needs(t, "X;", "ipv")
	needs(t, "{ X; }", "ipv")
	needs(t, "if (i) X;", "ipv")
	needs(t, "if (i) ; else X;", "ipv")
	needs(t, "while (i) X;", "ipv")
	needs(t, "do X; while (p);", "ipv")
	needs(t, "for (X; ; ) ;", "ipv")
	needs(t, "for (; ; X) ;", "ipv")
	needs(t, "for (; ; ) X;", "ipv")
	needs(t, "for (X; i; X) X;", "ipv")
	needs(t, "switch (i) { X; case 1: X; default: X; }", "ipv")
}

// TestSwitch: switch and case take numbers.
func TestSwitch(t *testing.T) {
	needs(t, "$switch (X) { }", "i")
	needs(t, "$switch (X) { case 1: default: ; }", "i")
	needs(t, "switch (i) { $case X: }", "i")
	needs(t, "switch (i) { case 1: i++; $case X: break; case 3: }", "i")
	needs(t, "switch (i) { default: ; $case X: v(); }", "i")
	needs(t, "while (i) { switch (1) { $case X: continue; } }", "i")
	fine(t, inWorld("switch (i) { } switch (i) { default: } switch (i) { default: default: case 1: case 1: }"))
}

// TestReturn: a return has what its function tells.
func TestReturn(t *testing.T) {
	for _, form := range []string{"return X;", "{ return X; }", "{ { return X; } }", "if (1) return X;", "if (1) ; else return X;", "while (1) return X;", "do return X; while (1);", "for (;;) return X;", "for (int x; ; ) { { return X; } }", "switch (1) { return X; }", "switch (1) { case 1: return X; }", "; i = 1; return X; i = 2;"} {
		for _, result := range letters() {
			for _, params := range [][]string{nil, {"i", "p"}} {
				f := func(e string) string {
					body := strings.ReplaceAll(strings.ReplaceAll(form, " X", e), "return", "$return")
					return world + function(result, "test", params, " int n; int *q; int l; int *r; "+body) + "void main() {}"
				}
				for _, letter := range letters() {
					for _, e := range someOf(letter) {
						// Even a void function's return may not have a call of a void function.
						if letter == result && letter != "v" {
							fine(t, strings.ReplaceAll(f(" "+e), "$", ""))
						} else {
							faulty(t, f(" "+e), api.ErrType)
						}
					}
				}
				if result == "v" {
					fine(t, strings.ReplaceAll(f(""), "$", ""))
				} else {
					faulty(t, f(""), api.ErrType)
				}
			}
		}
	}
}

// TestReturnOfWhich: of several functions the one that a return is in counts, and none needs one.
func TestReturnOfWhich(t *testing.T) {
	fine(t, "int f() { return 1; } void g() { return; } int *h(int *x) { return x; } int main() { return f(); }")
	fine(t, "int f() {} int *g(int *x) { if (x) return x; } void h() {} int *main() {}")
	fine(t, "int *main() { int *main; return main; }")
	faulty(t, "int f() { return 1; } void main() { $return f(); }", api.ErrType)
	faulty(t, "void f() { return; } int main() { $return; }", api.ErrType)
	faulty(t, "int main() { return 1; } void f() { $return 1; }", api.ErrType)
	faulty(t, "int *f(int *x) { return x; } int main() { int *x; $return f(x); }", api.ErrType)
	faulty(t, "int u; int main() { if (1) return 1; $return &u - 1; }", api.ErrType)
	// The type of a parameter or a variable is none of its function.
	faulty(t, "int f(int *x) { int *y = x; $return y; } void main() {}", api.ErrType)
	fine(t, "int *f(int x) { int y = x; { return 1 + &u; } } int u; void main() {}")
}

// loops are actions in which both break and continue may stand in place of the X.
func loops() []string {
	return []string{"while (i) X", "while (i) { X }", "do X while (i);", "do { X } while (i);", "for (;;) X", "for (int x; x; x++) { X }"}
}

// others are actions that change nothing about what break and continue are in.
func others() []string {
	return []string{"X", "{ X }", "{ { i; X } }", "if (i) X", "if (i) { X }", "if (i) ; else X", "if (i) ; else { if (n) X }", "while (i) ; X", "do ; while (i); X", "for (;;) ; X", "X while (i) ;", "switch (i) { case 1: } X", "X switch (i) { }"}
}

// switches are actions in which break may stand, and continue only if there is a loop around them.
func switches() []string {
	return []string{"switch (i) { X }", "switch (i) { case 1: X }", "switch (i) { case 1: ; default: ; X ; }", "switch (i) { default: { X } }"}
}

// in puts an action in place of the X of another one.
func in(outer, inner string) string { return strings.ReplaceAll(outer, "X", inner) }

// stray tells the test if the break or continue with the $ is not found to be in nothing that it leaves.
func stray(t *testing.T, actions string) {
	t.Helper()
	faulty(t, inWorld(actions), api.ErrState)
}

// inPlace tells the test if an action has a fault.
func inPlace(t *testing.T, actions string) {
	t.Helper()
	fine(t, inWorld(actions))
}

// TestStray: outside loops and switches, whatever is beside them.
func TestStray(t *testing.T) {
	for _, other := range others() {
		for _, inner := range others() {
			for _, word := range []string{"$break;", "$continue;"} {
				stray(t, in(other, in(inner, word)))
				for _, loop := range loops() {
					stray(t, in(loop, "{ "+in(inner, "break; continue;")+" }")+in(other, word))
					stray(t, in(other, word)+in(loop, "{ "+in(inner, "break; continue;")+" }"))
				}
				for _, choice := range switches() {
					stray(t, in(choice, in(inner, "break;"))+in(other, word))
					stray(t, in(other, word)+in(choice, in(inner, "break;")))
				}
			}
		}
	}
}

// TestBreakAndContinue: break is in a loop or a switch, continue in a loop, however far outside that is.
func TestBreakAndContinue(t *testing.T) {
	for _, loop := range loops() {
		for _, word := range []string{"break;", "continue;"} {
			inPlace(t, in(loop, word))
			for _, other := range others() {
				for _, inner := range others() {
					inPlace(t, in(other, in(loop, "{ "+in(inner, word)+" }")))
				}
			}
		}
	}
	for _, choice := range switches() {
		for _, other := range others() {
			for _, inner := range others() {
				inPlace(t, in(other, in(choice, in(inner, "break;"))))
				stray(t, in(other, in(choice, in(inner, "$continue;"))))
			}
		}
	}
}

// TestLoopsAndSwitches has them one within the other.
func TestLoopsAndSwitches(t *testing.T) {
	for _, choice := range switches() {
		for _, loop := range loops() {
			for _, word := range []string{"break;", "continue;"} {
				inPlace(t, in(loop, in(choice, word)))
				inPlace(t, in(choice, in(loop, word)))
				inPlace(t, in(loop, in(choice, in(loop, word))))
				inPlace(t, in(loop, in(choice, in(choice, word))))
				inPlace(t, in(choice, in(loop, in(choice, word))))
			}
			stray(t, in(choice, in(loop, "continue;")+" $continue;"))
			inPlace(t, in(choice, in(loop, "continue;")+" break;"))
		}
		for _, outer := range switches() {
			inPlace(t, in(outer, in(choice, "break;")+" break;"))
			stray(t, in(outer, in(choice, "$continue;")+" break;"))
			stray(t, in(outer, in(choice, "break;")+" $continue;"))
		}
	}
	for _, loop := range loops() {
		for _, inner := range loops() {
			inPlace(t, in(loop, "{ "+in(inner, "{ break; continue; }")+" break; continue; }"))
			inPlace(t, in(loop, in(inner, "continue;")))
			inPlace(t, in(loop, in(inner, "break;")))
		}
	}
}

// TestBreakOfFunction: loops and switches of other functions do not count.
func TestBreakOfFunction(t *testing.T) {
	faulty(t, "void f() { while (1) { break; } } void main() { $break; }", api.ErrState)
	faulty(t, "void f() { $continue; } void main() { for (;;) continue; }", api.ErrState)
	faulty(t, "void main() { $break; while (1) ; }", api.ErrState)
	faulty(t, "int main() { do ; while (1); $continue; return 1; }", api.ErrState)
}
