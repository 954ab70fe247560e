package consts_test

import (
	"math"
	"math/big"
	"strconv"
	"strings"
	"testing"

	"turnery/api"
	"turnery/consts"
	"turnery/tree"
)

// TestNumbers: a number is constant, however it is written.
func TestNumbers(t *testing.T) {
	for _, row := range [][2]string{{"0", "0"}, {"1", "1"}, {"'a'", "97"}, {"0x1F", "31"}, {"0x0007", "7"}, {"9223372036854775807", "9223372036854775807"}, {"(5)", "5"}, {"((5))", "5"}} {
		is(t, row[0], row[1])
		are(t, row[0], row[1])
	}
	for _, n := range []int{0, 1, 2, math.MaxInt32, math.MaxUint32, math.MaxInt - 1, math.MaxInt} {
		is(t, strconv.Itoa(n), strconv.Itoa(n))
	}
}

// operands are numbers at which something about a sign may change.
func operands() []int {
	list := []int{0, 1, 2, 3, 5, 7, 10, 31, 32, 62, 63, 64, 65, 127, 128, 1 << 31, 1 << 32, 3037000500, 1 << 62, math.MaxInt - 1, math.MaxInt}
	for _, n := range list[1:] {
		list = append(list, -n)
	}
	return append(list, math.MinInt)
}

// oneSigns and twoSigns are those that constant expressions may have.
func oneSigns() []string { return strings.Fields("- ~ !") }

func twoSigns() []string {
	return strings.Fields("+ - * / % & | ^ << >> == != < <= > >= && ||")
}

// number is a text of a number, in parentheses if it needs any.
func number(n int) string {
	text := modelNumber(big.NewInt(int64(n)))
	if n < 0 {
		return "(" + text + ")"
	}
	return text
}

// word is what a number of the model is as shown shows it.
func word(n *big.Int) string {
	if n == nil {
		return "-"
	}
	return n.String()
}

// TestOneSigns compares with numbers of any size.
func TestOneSigns(t *testing.T) {
	for _, n := range operands() {
		is(t, number(n), strconv.Itoa(n))
		for _, sign := range oneSigns() {
			is(t, sign+" "+number(n), word(modelOne(sign, big.NewInt(int64(n)))))
		}
	}
}

// TestTwoSigns compares with numbers of any size.
func TestTwoSigns(t *testing.T) {
	for _, a := range operands() {
		for _, b := range operands() {
			for _, sign := range twoSigns() {
				is(t, number(a)+" "+sign+" "+number(b), word(modelTwo(sign, big.NewInt(int64(a)), big.NewInt(int64(b)))))
			}
		}
	}
}

// TestPick picks by a condition of any number.
func TestPick(t *testing.T) {
	for _, n := range operands() {
		want := "7"
		if n == 0 {
			want = "-8"
		}
		is(t, number(n)+" ? 7 : -8", want)
		is(t, number(n)+" ? 3 + 4 : -4 - 4", want)
	}
	is(t, "1 ? 2 ? 3 : 4 : 5", "3")
	is(t, "0 ? 1 : 0 ? 2 : 3", "3")
	is(t, "(0 ? 1 : 0) ? 2 : 3", "3")
}

// small and large are the ends of the numbers, as texts.
const (
	small = "(-9223372036854775807 - 1)"
	large = "9223372036854775807"
)

// TestValues has results that the document names, or that are easily mistaken.
func TestValues(t *testing.T) {
	for _, row := range []struct{ text, want string }{
		{"2*3", "6"}, {"7 / 2", "3"}, {"-7 / 2", "-3"}, {"7 / -2", "-3"}, {"-7 / -2", "3"}, {"7 % 2", "1"}, {"-7 % 2", "-1"}, {"7 % -2", "1"}, {"-7 % -2", "-1"}, {"0 / 5", "0"}, {"0 % -5", "0"},
		{small, "-9223372036854775808"}, {"-" + small, "-9223372036854775808"}, {small + " / -1", "-9223372036854775808"}, {small + " % -1", "0"}, {small + " * -1", "-9223372036854775808"}, {small + " - 1", large}, {large + " + 1", "-9223372036854775808"}, {large + " * 2", "-2"}, {large + " * " + large, "1"}, {"~" + large, "-9223372036854775808"}, {"0 - " + small, "-9223372036854775808"},
		{"1 << 63", "-9223372036854775808"}, {"1 << 64", "1"}, {"1 << 65", "2"}, {"1 << -1", "-9223372036854775808"}, {"3 << 63", "-9223372036854775808"}, {"2 << 63", "0"}, {"1 << -64", "1"}, {"5 << " + small, "5"},
		{small + " >> 63", "-1"}, {small + " >> 64", "-9223372036854775808"}, {"-1 >> 1", "-1"}, {"-5 >> 1", "-3"}, {"-5 / 2", "-2"}, {large + " >> 62", "1"}, {large + " >> -1", "0"}, {"8 >> 67", "1"},
		{"-1 < 0", "1"}, {"-1 > 0", "0"}, {small + " < " + large, "1"}, {small + " > " + large, "0"}, {"2 <= 2", "1"}, {"2 >= 2", "1"}, {"2 < 2", "0"}, {"2 > 2", "0"}, {"2 == 2", "1"}, {"2 != 2", "0"}, {"5 == 2", "0"}, {"5 != 2", "1"},
		{"2 && 4", "1"}, {"2 || 4", "1"}, {"0 && 4", "0"}, {"4 && 0", "0"}, {"0 || 0", "0"}, {"0 || -3", "1"}, {"-3 || 0", "1"}, {"2 & 4", "0"}, {"2 | 4", "6"}, {"6 ^ 3", "5"}, {"-1 ^ 1", "-2"},
		{"!0", "1"}, {"!5", "0"}, {"!!5", "1"}, {"!-1", "0"}, {"~0", "-1"}, {"~-1", "0"}, {"~~5", "5"}, {"- -5", "5"}, {"-0", "0"}, {"-!~-1", "-1"},
		{"1 + 2 * 3 - 4", "3"}, {"10 - 3 - 2", "5"}, {"100 / 10 / 5", "2"}, {"(1 + 2) * (3 + 4)", "21"}, {"1 < 2 == 1", "1"}, {"3 > 2 > 1", "0"}, {"2 + 3 << 1", "10"},
	} {
		is(t, row.text, row.want)
	}
}

// TestDivisionByZero: what divides by 0 is not constant, and neither is what it is a part of, even one that is not evaluated.
func TestDivisionByZero(t *testing.T) {
	for _, zero := range []string{"0", "-0", "(2 - 2)", "!1", "(0 && 1)", "(1 ? 0 : 1)", "0x0", "(1 << 63 << 1)", "(0 / 3)", "~-1"} {
		for _, a := range []string{"0", "1", "-1", small, large} {
			is(t, a+" / "+zero, "-")
			is(t, a+" % "+zero, "-")
			is(t, zero+" / (1 + "+zero+")", "0")
			is(t, zero+" % (1 + "+zero+")", "0")
		}
	}
	are(t, "1 / 0", "1 0 -")
	are(t, "1 % 0", "1 0 -")
	are(t, "0 && 1 / 0", "0 1 0 - -")
	are(t, "1 || 1 % 0", "1 1 0 - -")
	are(t, "1 ? 2 : 1 / 0", "1 2 1 0 - -")
	are(t, "0 ? 1 / 0 : 2", "0 1 0 - 2 -")
	are(t, "-(1 / 0)", "1 0 - -")
	are(t, "1 / 0 * 0 + 2 * 3", "1 0 - 0 - 2 3 6 -")
	are(t, "6 / (1 / 0)", "6 1 0 - -")
	are(t, "1 * 0 & 0 - 0 | 0", "1 0 0 0 0 0 0 0 0")
}

// moving are expressions that are not constant, whatever is in them.
func moving() []string {
	return []string{"x", "f()", "f(1)", "f(1, 2)", "read()", "print(1)", "(1)[2]", "a[0]", "*1", "&1", "*&1", "(1 = 2)", "(1 += 2)", "(1 <<= 2)", "++1", "--1", "(1)++", "(1)--", "1 / 0", "1 % (1 - 1)"}
}

// TestNotConstant: expressions of other kinds are not constant, nor what has one in any place.
func TestNotConstant(t *testing.T) {
	for _, text := range moving() {
		m := "(" + text + ")"
		is(t, m, "-")
		for _, sign := range oneSigns() {
			is(t, sign+m, "-")
		}
		for _, sign := range twoSigns() {
			is(t, m+sign+"1", "-")
			is(t, "1"+sign+m, "-")
			is(t, m+sign+"0", "-")
			is(t, "0"+sign+m, "-")
			is(t, m+sign+m, "-")
			is(t, "(1 "+sign+" 1)"+sign+"(2 + "+m+")", "-")
		}
		for _, c := range []string{"0", "1"} {
			is(t, c+" ? "+m+" : 1", "-")
			is(t, c+" ? 1 : "+m, "-")
			is(t, c+" ? "+m+" : "+m, "-")
		}
		is(t, m+" ? 1 : 1", "-")
	}
}

// TestWithin: of what is not constant, parts may be.
func TestWithin(t *testing.T) {
	are(t, "x + 2 * 3", "- 2 3 6 -")
	are(t, "2 * 3 + x", "2 3 6 - -")
	are(t, "2 + x + 3", "2 - - 3 -")
	are(t, "f(1, 2 + 3, x, -4)", "1 2 3 5 - 4 -4 -")
	are(t, "a[1 << 4]", "- 1 4 16 -")
	are(t, "(1 + 1)[2 + 2]", "1 1 2 2 2 4 -")
	are(t, "*(2 - 3)", "2 3 -1 -")
	are(t, "&(2 * 2)", "2 2 4 -")
	are(t, "1 + 1 = 2 + 2", "1 1 2 2 2 4 -")
	are(t, "x |= 1 | 2", "- 1 2 3 -")
	are(t, "++(1 + 1)", "1 1 2 -")
	are(t, "(~0)--", "0 -1 -")
	are(t, "- -5", "5 -5 5")
	are(t, "1 ? x : 1 + 1", "1 - 1 1 2 -")
	are(t, "!(1 && 0) || x", "1 0 0 1 - -")
}

// TestInUnits: expressions of units have values; of other nodes Value asks nothing.
func TestInUnits(t *testing.T) {
	each(t, "a unit", unitOf(t, "int x = 1 + 1; int a[3] = {-1, 2}; int f(int n) { return n * (2 - 3); }"), "1 1 2 ? 1 -1 2 ? ? - 2 3 -1 - ? ? ? ?")
	each(t, "actions", unitOf(t, "void f() { int l = 3; l; ; { } if (1) 2; while (3) break; do continue; while (4); for (int i = 5; 6; 7) ; for (;;) ; switch (8) { case 9: default: 10; } return 11; return; }"),
		"3 ? - ? ? ? 1 2 ? ? ? 3 ? ? ? ? ? 4 ? 5 ? 6 7 ? ? ? ? ? ? ? ? ? ? 8 9 ? ? 10 ? ? 11 ? ? ? ? ?")
	// Neither names nor types need to be right.
	each(t, "a wrong unit", unitOf(t, "int x = x + y; int x; void f() { break; return 1 + 1; case1(2); }"), "- - - ? ? ? 1 1 2 ? 2 - ? ? ? ?")
}

// noNode tells the test if Value takes a number of no expression.
func noNode(t *testing.T, of api.Tree, k int) {
	t.Helper()
	if value, ok, f := consts.Value(of, k); value != 0 || ok || f != (api.Fault{Code: api.ErrRange, At: -1}) {
		t.Errorf("node %d of %v: %d, %v, %v", k, of, value, ok, f)
	}
}

// TestNoNode: k is the number of an expression.
func TestNoNode(t *testing.T) {
	for _, of := range []api.Tree{exprOf(t, "1"), exprOf(t, "2 + 3"), exprOf(t, "x"), unitOf(t, ""), unitOf(t, "int x = 1; void main() { x; }")} {
		for _, k := range []int{-1, -2, math.MinInt, len(of.Nodes), len(of.Nodes) + 1, math.MaxInt} {
			noNode(t, of, k)
		}
	}
	unit := unitOf(t, everyKind)
	kinds := map[int]bool{}
	for k, n := range unit.Nodes {
		part, f := tree.Part(unit, k)
		if f != (api.Fault{}) {
			t.Fatal(f)
		}
		last := len(part.Nodes) - 1
		if n.Kind >= api.IsNum {
			is := modelShown(unit, k)
			if shown(t, unit, k) != is || shown(t, part, last) != is {
				t.Errorf("node %d of %v: not %s", k, unit, is)
			}
			continue
		}
		kinds[n.Kind] = true
		noNode(t, unit, k)
		noNode(t, part, last)
	}
	if len(kinds) != 4+14 {
		t.Errorf("%d kinds that are no expressions", len(kinds))
	}
}

// everyKind is a unit of nodes of every kind without a fault.
const everyKind = `int g; int *h; int a[2] = {1, 2 - 3};
	int f(int n, int *m) {
		int l = n; int *k;
		{ l++; ; }
		if (n && g) return 1; else return n ? 2 : g;
		while (!m) break;
		do continue; while (a[0]);
		for (;;) ;
		for (int i = 0; i < 3 * 4; i += 1) --k;
		switch (n) { case 1 + 1: f(2, h); default: print(read()); }
		return *&g - l;
	}
	void main() {}`
