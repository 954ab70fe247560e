package consts_test

import (
	"fmt"
	"strings"
	"testing"

	"turnery/api"
)

// world is what the tests' functions are in: a global of each type, and functions of each result.
const world = "int i; int *p; int a[3]; void v() {} int fi() { return 1; } int *fp() { return p; } "

// inWorld is a unit with these actions in a function that has parameters and locals.
func inWorld(actions string) string {
	return world + "void test(int n, int *q) { int l; int *r; " + actions + " } void main() {}"
}

// steady are constant expressions.
func steady() []string {
	return []string{"0", "7", "-1", "~0", "!5", "1 + 2 * 3", "7 / 2", "0 / 1", "1 < 2", "1 && 0", "0 || 0", "1 ? 2 : 3", "'a'", large, small, "(1 << 70)", "-(-5 % 3)"}
}

// wandering are numbers in the test's world that are not constant; the $ is at the root of each.
func wandering() []string {
	return []string{"$i", "$fi()", "$read()", "$print(1)", "a$[0]", "$*p", "$*a", "$-i", "$!i", "$!p", "1 $+ i", "i $* 0", "i $- i", "p $- p", "p $== p", "p $&& 1", "0 $&& i", "1 $|| i", "1 $? 2 : i", "0 $? i : 2", "p $? 1 : 2", "1 $/ 0", "1 $% (2 - 2)", "0 $&& 1 / 0", "1 $? 2 : 3 % 0", "1 $+ 1 / 0", "i $= 1", "i $+= 1", "$++i", "i$--"}
}

// plain is a text without its mark.
func plain(marked string) string { return strings.ReplaceAll(marked, "$", "") }

// TestGlobals: the initial value of a global is constant.
func TestGlobals(t *testing.T) {
	for _, e := range steady() {
		fine(t, world+"int x = "+e+"; void main() {}")
		fine(t, world+"void main() {} int x[1] = {"+e+"};")
		fine(t, world+"int x[5] = {1, "+e+", "+e+"}; void main() {}")
	}
	for _, e := range wandering() {
		faulty(t, world+"int x = "+e+"; void main() {}", api.ErrForm)
		faulty(t, world+"void main() {} int x = ("+e+");", api.ErrForm)
		faulty(t, world+"int x[1] = {"+e+"}; void main() {}", api.ErrForm)
		for _, other := range append(steady(), wandering()...) {
			faulty(t, world+"int x[3] = {"+e+", "+plain(other)+"}; void main() {}", api.ErrForm)
		}
		for _, other := range steady() {
			faulty(t, world+"int x[3] = {"+other+", "+other+", "+e+"}; void main() {}", api.ErrForm)
		}
	}
	fine(t, "int x; int y[2] = {}; int *z; int u[3]; void main() {}")
	// Neither what is constant in fact, nor the global itself, is a constant expression.
	faulty(t, "int x = 3; int y = $x; void main() {}", api.ErrForm)
	faulty(t, "int x = $x; void main() {}", api.ErrForm)
	faulty(t, "int x[2] = {1, x$[0]}; void main() {}", api.ErrForm)
}

// TestPointers: a global pointer has no initial value.
func TestPointers(t *testing.T) {
	for _, e := range []string{"$p", "$a", "$&i", "$&a[1]", "$&*p", "p $+ 1", "1 $+ a", "a $- 1", "$fp()", "1 $? p : a", "0 $? a : a", "p $= a", "p $+= 1", "p$++", "$--p"} {
		faulty(t, world+"int *x = "+e+"; void main() {}", api.ErrForm)
		faulty(t, "int *x = "+e+"; void main() {} "+world, api.ErrForm)
	}
	faulty(t, "int *x = $x; void main() {}", api.ErrForm)
	fine(t, world+"int *x; void main() {}")
}

// TestLocals: that of a local may be anything, as may the other expressions of actions.
func TestLocals(t *testing.T) {
	for _, e := range append(steady(), wandering()...) {
		e = plain(e)
		fine(t, inWorld("int x = "+e+"; { int y = "+e+"; } for (int z = "+e+"; "+e+"; "+e+") ; if ("+e+") "+e+"; while ("+e+") ; do ; while ("+e+"); print("+e+"); switch ("+e+") { int w = "+e+"; case 1: "+e+"; }"))
		fine(t, "int r() { return "+e+"; } "+inWorld(""))
	}
	for _, e := range []string{"p", "a", "q + 1", "&i", "fp()"} {
		fine(t, inWorld("int *x = "+e+"; for (int *z = "+e+"; ; ) ; "+e+";"))
	}
}

// TestCases: the expression of a case is constant.
func TestCases(t *testing.T) {
	for _, e := range steady() {
		fine(t, inWorld("switch (i) { case "+e+": }"))
		fine(t, inWorld("switch (i) { case 99: i++; case "+e+": break; case 98: default: }"))
	}
	for _, e := range append(wandering(), "$n", "$l", "n $+ 1", "q$[0]", "l $= 3") {
		e = plain(e)
		faulty(t, inWorld("switch (i) { $case "+e+": }"), api.ErrForm)
		faulty(t, inWorld("switch (i) { $case ("+e+"): case "+e+": }"), api.ErrForm)
		faulty(t, inWorld("switch (i) { default: i++; case 98: $case "+e+": break; case 99: }"), api.ErrForm)
		faulty(t, inWorld("while (i) { { if (i) switch (i) { ; $case "+e+": } } }"), api.ErrForm)
		faulty(t, inWorld("switch (i) { case 1: switch (i) { case 1: $case "+e+": } }"), api.ErrForm)
	}
}

// TestTwice: no two cases of a switch have one value, however it is written, and one default is enough.
func TestTwice(t *testing.T) {
	for _, same := range [][]string{{"0", "-0", "!1", "1 - 1", "0 && 5", "0x0"}, {"1", "!0", "7 / 7", "1 < 2", "1 << 64"}, {"-1", "~0", "1 - 2", "-1 >> 5"}, {"'a'", "97", "0x61", "(97)"}, {small, "1 << 63", "-" + large + " - 1", large + " + 1"}, {large, "~" + small}} {
		for _, one := range same {
			for _, two := range same {
				faulty(t, inWorld("switch (i) { case "+one+": $case "+two+": }"), api.ErrTwice)
				faulty(t, inWorld("switch (i) { case "+one+": i++; break; case 5: default: { i--; } $case "+two+": i++; case "+one+": case 5: default: }"), api.ErrTwice)
			}
		}
	}
	faulty(t, inWorld("switch (i) { default: $default: }"), api.ErrTwice)
	faulty(t, inWorld("switch (i) { default: i; case 1: case 2: break; $default: i; default: case 1: }"), api.ErrTwice)
	faulty(t, inWorld("switch (i) { case 1: default: $case 1: default: }"), api.ErrTwice)
	faulty(t, inWorld("switch (i) { case 1: default: $default: case 1: }"), api.ErrTwice)
	faulty(t, inWorld("switch (i) { default: case 2: case 1: $case 2: case 1: default: }"), api.ErrTwice)
	faulty(t, inWorld("switch (i) { case 1: case 2: case 3: $case 3: case 2: case 1: }"), api.ErrTwice)
	fine(t, inWorld("switch (i) { }"))
	fine(t, inWorld("switch (i) { ; i; { } }"))
	fine(t, inWorld("switch (1) { default: }"))
	fine(t, inWorld("switch (1) { default: case 0: case 1: case -1: }"))
	fine(t, inWorld("switch (1) { case 1: case 2: case 3: case -1: case 0: default: case 4: }"))
	// What the switch looks for, and what is below its cases, are no cases.
	fine(t, inWorld("switch (1) { 1; case 1: 1; int x = 1; x == 1; 2; case 2: 1; }"))
}

// TestSwitches: the cases of one switch are not those of another one, around it, in it or beside it.
func TestSwitches(t *testing.T) {
	both := "case 1: case 2: default: "
	fine(t, inWorld("switch (i) { "+both+"} switch (i) { "+both+"}"))
	fine(t, inWorld("switch (i) { "+both+"switch (i) { "+both+"} }"))
	fine(t, inWorld("switch (i) { switch (i) { "+both+"switch (i) { "+both+" } } "+both+" }"))
	fine(t, inWorld("switch (i) { case 1: if (i) { while (i) { switch (i) { "+both+"} } } default: case 2: }"))
	fine(t, "void f(int i) { switch (i) { "+both+"} } "+inWorld("switch (i) { "+both+"}"))
	faulty(t, inWorld("switch (i) { case 1: switch (i) { case 1: } $case 1: }"), api.ErrTwice)
	faulty(t, inWorld("switch (i) { default: switch (i) { default: } $default: }"), api.ErrTwice)
	faulty(t, inWorld("switch (i) { case 1: switch (i) { case 2: } case 2: switch (i) { case 2: case 1: $case 2: } }"), api.ErrTwice)
	faulty(t, inWorld("switch (i) { "+both+"} switch (i) { "+both+" $case 1: } switch (i) { "+both+both+"}"), api.ErrTwice)
}

// TestManyCases has as many cases as fit into a tree.
func TestManyCases(t *testing.T) {
	var cases []string
	for k := range 290 {
		cases = append(cases, fmt.Sprint("case ", (k*37+11)%290, ": "))
	}
	head := "void main() { switch (1) { "
	of := unitOf(t, head+strings.Join(cases[:200], "")+"} }")
	fails(t, "200 cases", of, api.Fault{})
	of = unitOf(t, head+strings.Join(cases[90:], "")+"} }")
	fails(t, "200 other cases", of, api.Fault{})
	for _, k := range []int{0, 1, 100, 198, 199} {
		faulty(t, head+strings.Join(cases[:200], "")+"$"+cases[k]+"} }", api.ErrTwice)
		faulty(t, head+strings.Join(cases[:200], "")+cases[205]+cases[206]+"$"+cases[k]+cases[0]+"} }", api.ErrTwice)
	}
}
