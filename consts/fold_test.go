package consts_test

import (
	"math/big"
	"strings"
	"testing"

	"turnery/api"
	"turnery/consts"
	"turnery/tree"
)

// TestFoldToNumbers: the nodes of a number are those of its text, all with the offset of what it stands for.
func TestFoldToNumbers(t *testing.T) {
	for _, n := range operands() {
		want := exprOf(t, modelNumber(big.NewInt(int64(n))))
		for k := range want.Nodes {
			want.Nodes[k].At = 2
		}
		becomes(t, "a sum", exprOf(t, "0 + "+number(n)), want)
	}
	folds(t, "5", "@0 5")
	folds(t, " 5", "@1 5")
	folds(t, "( 0x05 )", "@2 5")
	folds(t, "0", "@0 0")
	folds(t, "-5", "@0 - @0 5")
	folds(t, "  -  5", "@2 - @2 5")
	folds(t, "-0", "@0 0")
	folds(t, "- -5", "@0 5")
	folds(t, "-  - - 5", "@0 - @0 5")
	folds(t, "~4", "@0 - @0 5")
	folds(t, "-9223372036854775807", "@0 - @0 9223372036854775807")
	folds(t, "-9223372036854775807 - 1", "@21 - @21 9223372036854775807 @21 - @21 1")
	folds(t, "  ~9223372036854775807", "@2 - @2 9223372036854775807 @2 - @2 1")
	folds(t, "1 << 63", "@2 - @2 9223372036854775807 @2 - @2 1")
}

// TestFoldExpressions: the largest constant expressions are replaced, and nothing else.
func TestFoldExpressions(t *testing.T) {
	folds(t, "x + 2 * 3", "@0 x @2 + @6 6")
	folds(t, "2 * 3 + x", "@2 6 @6 + @8 x")
	folds(t, "2 + x + 3", "@0 2 @2 + @4 x @6 + @8 3")
	folds(t, "2 + 3 + x", "@2 5 @6 + @8 x")
	folds(t, "x + (2 + 3)", "@0 x @2 + @7 5")
	folds(t, "x - 2 - 3", "@0 x @2 - @4 2 @6 - @8 3")
	folds(t, "(1 < 2) + (3 * (4 + -5)) + (2 > 1 ? x : 7 / 2)", "@8 - @8 2 @25 + ( @30 1 @34 ? @36 x : @42 3 )")
}

// TestFoldEachPlace: constant expressions are replaced wherever they are in others.
func TestFoldEachPlace(t *testing.T) {
	folds(t, "f(1+1, x, 2*3, -4)", "@0 f ( @3 2 , @7 x , @11 6 , @15 - @15 4 )")
	folds(t, "f(g(1+1))", "@0 f ( @2 g ( @5 2 ) )")
	folds(t, "a[1+1]", "@0 a @1 [ @3 2 ]")
	folds(t, "(1+1)[2+2]", "@2 2 @5 [ @7 4 ]")
	folds(t, "-(x+~1)", "@0 - ( @2 x @3 + @4 - @4 2 )")
	folds(t, "!x", "@0 ! @1 x")
	folds(t, "*(1+1)", "@0 * @3 2")
	folds(t, "&(1+1)", "@0 & @3 2")
	folds(t, "-*(1+1)", "@0 - @1 * @4 2")
	folds(t, "1+1 = 2+2", "@1 2 @4 = @7 4")
	folds(t, "x <<= 2+2", "@0 x @2 <<= @7 4")
	folds(t, "++(1+1)", "@0 ++ @4 2")
	folds(t, "(1+1)--", "@2 2 @5 --")
	folds(t, "x ? 1+1 : 2+2", "@0 x @2 ? @5 2 : @11 4")
	folds(t, "1+1 ? x : 2+2", "@1 2 @4 ? @6 x : @11 4")
	folds(t, "1+1 ? 2+2 : x", "@1 2 @4 ? @7 4 : @12 x")
	folds(t, "1 ? 2 : x", "@0 1 @2 ? @4 2 : @8 x")
	folds(t, "1+1 && x", "@1 2 @4 && @7 x")
	folds(t, "x || 1+1", "@0 x @2 || @6 2")
	folds(t, "0 && x", "@0 0 @2 && @5 x")
	folds(t, "x * 0", "@0 x @2 * @4 0")
	folds(t, "1 ? 2 : 3", "@2 2")
	folds(t, "0 ? 2 : -3", "@2 - @2 3")
	folds(t, "2 && 3", "@2 1")
	folds(t, "!3 || 0", "@3 0")
	folds(t, "x / -(1 << 63)", "@0 x @2 / ( @4 - @4 9223372036854775807 @4 - @4 1 )")
}

// TestFoldDivisionByZero: a division by 0 stays, and of what it is in only the other parts are replaced.
func TestFoldDivisionByZero(t *testing.T) {
	folds(t, "1 / 0", "@0 1 @2 / @4 0")
	folds(t, "1 % 0", "@0 1 @2 % @4 0")
	folds(t, "(1+1) / (1-1)", "@2 2 @6 / @10 0")
	folds(t, "5 % -0", "@0 5 @2 % @4 0")
	folds(t, "-(1/0)", "@0 - ( @2 1 @3 / @4 0 )")
	folds(t, "0 && 1/0", "@0 0 @2 && @5 1 @6 / @7 0")
	folds(t, "1+1 ? 2+2 : 1/0", "@1 2 @4 ? @7 4 : @12 1 @13 / @14 0")
	folds(t, "(2+2) + 1/0", "@2 4 @6 + @8 1 @9 / @10 0")
	folds(t, "7 / (1/0)", "@0 7 @2 / ( @5 1 @6 / @7 0 )")
}

// inUnit tells the test if folding a unit comes to another one than that of a text, wherever their nodes stand.
func inUnit(t *testing.T, text, want string) {
	t.Helper()
	got, f := consts.Fold(unitOf(t, text))
	if f != (api.Fault{}) {
		t.Errorf("%s: %v", text, f)
		return
	}
	if is, f := tree.Same(got, unitOf(t, want)); !is || f != (api.Fault{}) {
		t.Errorf("%s: %v, %v", text, got, f)
	}
}

// TestFoldUnits: constant expressions are replaced wherever they are in a unit.
func TestFoldUnits(t *testing.T) {
	inUnit(t, "", "")
	inUnit(t, "int x = 1 + 1; int a[3] = {2 * 2, -(-3), x}; int y;", "int x = 2; int a[3] = {4, 3, x}; int y;")
	inUnit(t, "int f(int n) { return n + (1 << 3); } void main() { f(2 * 2); }", "int f(int n) { return n + 8; } void main() { f(4); }")
	inUnit(t, "void f() { int x = 1 + 1; { 1 + 2; ; } return 2 + 2; return; }", "void f() { int x = 2; { 3; ; } return 4; return; }")
	inUnit(t, "void f() { if (1 + 1) 1 + 2; if (1 + 3) ; else 1 + 4; }", "void f() { if (2) 3; if (4) ; else 5; }")
	inUnit(t, "void f() { while (1 + 1) { 1 + 2; break; } do { 1 + 3; continue; } while (1 + 4); }", "void f() { while (2) { 3; break; } do { 4; continue; } while (5); }")
	inUnit(t, "void f() { for (1 + 1; 1 + 2; 1 + 3) 1 + 4; for (int i = 1 - 3; i < 1 << 2; i += 3 / 2) ; for (;;) ; }", "void f() { for (2; 3; 4) 5; for (int i = -2; i < 4; i += 1) ; for (;;) ; }")
	inUnit(t, "void f() { switch (1 + 1) { 1 + 2; case 1 + 3: default: case ~0: 1 + 4; } }", "void f() { switch (2) { 3; case 4: default: case -1: 5; } }")
	// Neither names nor types need to be right.
	inUnit(t, "int *x = 1 + 1; int x = y + (2 + 2); void f() { break; case1(1 + 3); }", "int *x = 2; int x = y + 4; void f() { break; case1(4); }")
}

// TestFoldKeepsRest: nodes that are not constant keep all that they have, and offsets are kept.
func TestFoldKeepsRest(t *testing.T) {
	for _, text := range []string{"x", "f()", "f(1, x, 2)", "a[0]", "*p", "&x", "x = 1", "x -= 1", "++x", "x--", "1 / 0", "x ? 1 : 2", "x && 1", "f(x, g(y) + 1) * !~z"} {
		of := exprOf(t, text)
		becomes(t, text, of, of)
	}
	of := unitOf(t, strings.NewReplacer("2 - 3", "2", "3 * 4", "3", "1 + 1", "1").Replace(everyKind))
	becomes(t, "a unit", of, of)
	inUnit(t, everyKind, strings.NewReplacer("2 - 3", "-1", "3 * 4", "12", "1 + 1", "2").Replace(everyKind))
	for k := range of.Nodes {
		of.Nodes[k].At = 1000 - k*k%77
	}
	becomes(t, "a unit with other offsets", of, of)
}

// TestFoldParts: a part of a tree becomes what it becomes within the whole, if nothing around it is constant.
func TestFoldParts(t *testing.T) {
	kinds := map[int]bool{}
	for _, part := range partsOf(t, unitOf(t, everyKind)) {
		kinds[part.Nodes[len(part.Nodes)-1].Kind] = true
		want, f := modelFolded(t, part)
		if f != (api.Fault{}) {
			t.Fatal(f)
		}
		becomes(t, "a part", part, want)
	}
	if len(kinds) != 4+14+10 {
		t.Errorf("%d kinds of parts", len(kinds))
	}
}

// TestFoldTwice: what is folded stays.
func TestFoldTwice(t *testing.T) {
	for _, text := range []string{"1 - 2", "1 << 63", "x + (1 << 63)", "-x - ~5", "f(-5, - -5, 0)", "1 / (2 - 2)", "-(1 << 63) / 0"} {
		once, f := consts.Fold(exprOf(t, text))
		if f != (api.Fault{}) {
			t.Fatal(f)
		}
		becomes(t, text, once, once)
	}
}
