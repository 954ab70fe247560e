package types_test

import (
	"strings"
	"testing"
)

// places of a type in the test's world.
func places(letter string) []string {
	if letter == "i" {
		return []string{"i", "n", "l", "a[0]", "p[1]", "q[i]", "r[0]", "fp()[2]", "(p + 1)[0]", "*p", "*q", "*r", "*a", "*fp()", "*(p + 1)", "*&i", "(i)", "((l))", "(a[0])", "(*p)"}
	}
	return []string{"p", "q", "r", "(p)", "((q))"}
}

// noPlaces are expressions of a type that are no places, though some of them are made from one.
func noPlaces(letter string) []string {
	switch letter {
	case "i":
		return []string{"1", "fi()", "read()", "print(1)", "-i", "~i", "!i", "i + 1", "i * i", "i == i", "p - q", "i && i", "i || n", "(i ? i : n)", "(i = 1)", "(i += 1)", "(i++)", "(--i)", "-*p", "(a[0] + 0)"}
	case "p":
		return []string{"a", "(a)", "((a))", "fp()", "&i", "&a[0]", "&*p", "p + 1", "1 + p", "p - 1", "(i ? p : q)", "(p = q)", "(p += 1)", "(p++)", "(--p)", "(a + 0)"}
	}
	return []string{"v()", "w(1)", "(v())"}
}

// TestPlaces: what the places are made from has its type by itself.
func TestPlaces(t *testing.T) {
	for _, letter := range letters() {
		for _, e := range noPlaces(letter) {
			is(t, e, letter)
		}
		if letter != "v" {
			for _, e := range places(letter) {
				is(t, e, letter)
			}
		}
	}
}

// setRules is what an assignment of a value to a place of a type comes to.
func setRules() []struct{ signs, rules string } {
	return []struct{ signs, rules string }{
		{"=", "ii:i pp:p"},
		{"+= -=", "ii:i pi:p"},
		{"*= /= %= &= |= ^= <<= >>=", "ii:i"},
	}
}

// TestSet: assignments take a place and a value that goes with it.
func TestSet(t *testing.T) {
	count := 0
	for _, row := range setRules() {
		for _, sign := range strings.Fields(row.signs) {
			count++
			for _, y := range letters() {
				for _, b := range someOf(y) {
					for _, x := range []string{"i", "p"} {
						for _, a := range places(x) {
							is(t, a+" "+sign+" "+b, resultOf(row.rules, x, y))
						}
					}
					for _, x := range letters() {
						for _, a := range noPlaces(x) {
							is(t, a+" "+sign+" "+b, "-")
						}
					}
				}
			}
		}
	}
	if count != 11 {
		t.Errorf("%d signs", count)
	}
}

// TestSetInSet: an assignment is a value of the type of its place.
func TestSetInSet(t *testing.T) {
	is(t, "i = n = l = 1", "i")
	is(t, "p = q = r = a", "p")
	is(t, "p = q += i = 1", "p")
	is(t, "i += l -= 1", "i")
	is(t, "*(p = q) = 1", "i")
	is(t, "(p += 1)[0] = 1", "i")
	is(t, "(i = 1) + p", "p")
	wrongType(t, "i = p $= 1;")
	wrongType(t, "i $= p = q;")
	wrongType(t, "i $= p += 1;")
	wrongType(t, "p $= i = 1;")
	wrongType(t, "p $+= q = r;")
	wrongType(t, "i $= p;")
	wrongType(t, "i $+= p;")
	wrongType(t, "p $-= q;")
	wrongType(t, "a $= p;")
	wrongType(t, "a $+= 1;")
	wrongType(t, "(i = 1) $= 2;")
	wrongType(t, "(i) $= v();")
	wrongType(t, "v() $= v();")
}

// TestStep: ++ and --, ahead and behind, take a place, of whichever type.
func TestStep(t *testing.T) {
	for _, sign := range []string{"++", "--"} {
		for _, x := range letters() {
			for _, e := range noPlaces(x) {
				is(t, "("+e+")"+sign, "-")
				is(t, sign+"("+e+")", "-")
			}
		}
		for _, x := range []string{"i", "p"} {
			for _, e := range places(x) {
				is(t, "("+e+")"+sign, x)
				is(t, sign+"("+e+")", x)
				is(t, sign+" "+e, x)
			}
		}
		wrongType(t, "a$"+sign+";")
		wrongType(t, "$"+sign+"a;")
		wrongType(t, "a[1] = i"+sign+"$"+sign+";")
		wrongType(t, "$"+sign+sign+"i;")
		wrongType(t, "$"+sign+"i"+sign+";")
	}
	// *p++ is *(p++), and a value in memory; it is a place like each *e.
	is(t, "*p++", "i")
	is(t, "(*p++)++", "i")
	is(t, "++*++q", "i")
	is(t, "*p++ = *q++", "i")
}

// inMemory are the places of numbers that pointers can lead to.
func inMemory() []string {
	return []string{"i", "(i)", "a[0]", "p[1]", "q[i]", "r[0]", "fp()[2]", "(p + 1)[0]", "*p", "*q", "*r", "*a", "*fp()", "*(p + 1)", "*&i", "(*p)", "((a[0]))"}
}

// TestAddress: & takes a place of a number that is in memory.
func TestAddress(t *testing.T) {
	for _, e := range inMemory() {
		is(t, "&"+e, "p")
		is(t, "&("+e+")", "p")
		is(t, "*&"+e+" = 1", "i")
		is(t, "p = &"+e, "p")
		is(t, "&"+e+" - p", "i")
	}
	for _, e := range []string{"n", "l", "(n)", "((l))", "q", "r", "(q)", "p", "(p)", "a", "(a)"} {
		is(t, "& "+e, "-")
		wrongType(t, "p = $& "+e+";")
	}
	for _, x := range letters() {
		for _, e := range noPlaces(x) {
			is(t, "& ("+e+")", "-")
		}
	}
	wrongType(t, "$& &i;")
	wrongType(t, "$&i++;")
	wrongType(t, "$&++i;")
	wrongType(t, "$&-i;")
	wrongType(t, "$&!*p;")
	wrongType(t, "$&1;")
}

// TestNames: a name has the type of what it stands for, whether this is a global, a parameter or a local.
func TestNames(t *testing.T) {
	for _, c := range []struct{ text, letter string }{
		{"int x; void main() { x; }", "i"}, {"int *x; void main() { x; }", "p"}, {"int x[2]; void main() { x; }", "p"}, {"int x[1] = {1}; void main() { x; }", "p"},
		{"void main() { x; } int x;", "i"}, {"void main() { x; } int *x;", "p"}, {"void main() { x; } int x[200];", "p"},
		{"void f(int x) { x; } void main() {}", "i"}, {"void f(int *x) { x; } void main() {}", "p"}, {"void f(int *x, int y) { y; } void main() {}", "i"}, {"void f(int x, int *y) { y; } void main() {}", "p"},
		{"void main() { int x; x; }", "i"}, {"void main() { int *x; x; }", "p"}, {"void main() { for (int *x; ; ) x; }", "p"}, {"void main() { for (int x; ; ) x; }", "i"},
		// What hides another one has a type of its own.
		{"int x; void main() { int *x; x; }", "p"}, {"int *x; void main() { int x; x; }", "i"}, {"int x[2]; void main() { int x; x; }", "i"}, {"int x; void main() { { int *x; } x; }", "i"},
		{"int *x; void f(int x) { x; } void main() {}", "i"}, {"int x; void f(int *x) { x; } void main() {}", "p"}, {"void f(int x) { int *x; x; } void main() {}", "p"}, {"void f(int x) { { int *x; } x; } void main() {}", "i"},
		{"int *x; void main() { int x = x - x; x; }", "i"}, {"int x[2]; void main() { int *x = x; x; }", "p"}, {"void f() { int *x; } int x; void g() { int *x; } void main() { x; }", "i"},
		// Local variables and parameters may have names of functions.
		{"void x() { int *x; x; } void main() {}", "p"}, {"int *x(int x) { x; return x(x) + x; } void main() {}", "i"},
	} {
		tells(t, c.text, c.letter)
	}
	tells(t, "int *x; void main() { x = x; }", "p")
	tells(t, "int x[2]; void main() { x = x; }", "-")
	tells(t, "int x[2]; void main() { int *x; x = x; }", "p")
	tells(t, "int *x; void main() { int x; x = 1; }", "i")
}

// TestAddressOfHidden: what & is about is what the name stands for there.
func TestAddressOfHidden(t *testing.T) {
	for _, c := range []struct{ text, letter string }{
		{"int x; void main() { &x; }", "p"}, {"void main() { &x; } int x = 1;", "p"},
		{"void main() { int x; &x; }", "-"}, {"int x; void main() { int x; &x; }", "-"}, {"int x; void main() { { int x; } &x; }", "p"},
		{"int x; void main() { int *y = &x; int x; y; }", "p"}, {"int x; void f(int x) { &x; } void main() {}", "-"}, {"int x; void f(int y) { &x; } void main() {}", "p"},
		{"int x; void main() { for (int x; ; ) &x; }", "-"}, {"int x; void main() { for (int y; ; ) &x; }", "p"},
		{"int x[1]; void main() { &x; }", "-"}, {"int x[1]; void main() { &x[0]; }", "p"}, {"int *x; void main() { &x; }", "-"}, {"int *x; void main() { int *x; &x[0]; }", "p"}, {"int *x; void main() { int *x; &*x; }", "p"},
	} {
		tells(t, c.text, c.letter)
	}
}
