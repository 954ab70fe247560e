package types_test

import (
	"strings"
	"testing"
)

// someOf is expressions of a type in the test's world.
func someOf(letter string) []string {
	switch letter {
	case "i":
		return []string{"0", "7", "'a'", "i", "n", "l", "a[0]", "*p", "fi()", "read()", "(i)"}
	case "p":
		return []string{"p", "a", "q", "r", "fp()", "&i", "(p)"}
	}
	return []string{"v()", "w(1)", "(v())"}
}

// letters are those of the types.
func letters() []string { return []string{"i", "p", "v"} }

// resultOf looks in rules like "ii:i pi:p" for what the operands come to; "-": they may not stand there.
func resultOf(rules string, operands ...string) string {
	for _, rule := range strings.Fields(rules) {
		if from, to, _ := strings.Cut(rule, ":"); from == strings.Join(operands, "") {
			return to
		}
	}
	return "-"
}

// TestOperands: each expression that the tests are made from has its type by itself.
func TestOperands(t *testing.T) {
	for _, letter := range letters() {
		for _, e := range someOf(letter) {
			is(t, e, letter)
			is(t, "("+e+")", letter)
			is(t, "(("+e+"))", letter)
		}
	}
	is(t, "9223372036854775807", "i")
	is(t, "print(1)", "i")
	is(t, "0x10", "i")
}

// TestOne: signs ahead of an expression.
func TestOne(t *testing.T) {
	for _, row := range []struct{ signs, rules string }{
		{"- ~", "i:i"},
		{"!", "i:i p:i"},
		{"*", "p:i"},
	} {
		for _, sign := range strings.Fields(row.signs) {
			for _, x := range letters() {
				for _, e := range someOf(x) {
					is(t, sign+" "+e, resultOf(row.rules, x))
					is(t, sign+" ("+e+")", resultOf(row.rules, x))
				}
			}
		}
	}
}

// twoRules is what signs between two expressions come to.
func twoRules() []struct{ signs, rules string } {
	return []struct{ signs, rules string }{
		{"== != < <= > >=", "ii:i pp:i"},
		{"+", "ii:i pi:p ip:p"},
		{"-", "ii:i pp:i pi:p"},
		{"* / % & | ^ << >>", "ii:i"},
		{"&& ||", "ii:i ip:i pi:i pp:i"},
	}
}

// TestTwo: signs between two expressions.
func TestTwo(t *testing.T) {
	count := 0
	for _, row := range twoRules() {
		for _, sign := range strings.Fields(row.signs) {
			count++
			for _, x := range letters() {
				for _, y := range letters() {
					for _, a := range someOf(x) {
						for _, b := range someOf(y) {
							is(t, a+" "+sign+" "+b, resultOf(row.rules, x, y))
						}
					}
				}
			}
		}
	}
	if count != 16+2 {
		t.Errorf("%d signs", count)
	}
}

// TestIndex: a[e] takes a pointer and a number, in this order.
func TestIndex(t *testing.T) {
	for _, x := range letters() {
		for _, y := range letters() {
			for _, a := range someOf(x) {
				for _, b := range someOf(y) {
					is(t, "("+a+")["+b+"]", resultOf("pi:i", x, y))
				}
			}
		}
	}
	is(t, "p[1]", "i")
	is(t, "a[a[a[0]]]", "i")
	is(t, "fp()[1]", "i")
	is(t, "(p + 1)[1]", "i")
	is(t, "1[p]", "-")
	is(t, "i[0]", "-")
	wrongType(t, "a[0]$[0];")
	wrongType(t, "p$[p];")
}

// TestPick: the condition of ? : may be of either type, and the others are of the same.
func TestPick(t *testing.T) {
	for _, x := range letters() {
		for _, y := range letters() {
			for _, z := range letters() {
				for _, c := range someOf(x) {
					for _, a := range someOf(y) {
						for _, b := range someOf(z) {
							is(t, c+" ? "+a+" : "+b, resultOf("iii:i pii:i ipp:p ppp:p", x, y, z))
						}
					}
				}
			}
		}
	}
	is(t, "i ? p ? i : n : l", "i")
	is(t, "i ? p : p ? a : q", "p")
	is(t, "(i ? v() : i)", "-")
}

// TestWithin: the type of an expression is that of its root, however many are within it.
func TestWithin(t *testing.T) {
	is(t, "&a[1] - a", "i")
	is(t, "p + 1 - p", "i")
	is(t, "p + (1 - i)", "p")
	is(t, "1 + p - 1", "p")
	is(t, "1 + (p - q)", "i")
	is(t, "*(p + 1) + 1", "i")
	is(t, "*p + 1 + p", "p")
	is(t, "-(p - q) * (p == q)", "i")
	is(t, "(p < q) + p", "p")
	is(t, "!p + !!p", "i")
	is(t, "&*&*p + *&i", "p")
	is(t, "&p[1]", "p")
}
