package parse

import (
	"strings"
	"testing"

	"turnery/api"
)

// parted takes the mark @ out of a text: behind it is the first token that cannot continue the text, or there one is missing.
func parted(t *testing.T, parse parser, marked string) {
	t.Helper()
	ahead, rest, found := strings.Cut(marked, "@")
	if !found {
		t.Fatalf("%q has no mark", marked)
	}
	fails(t, parse, ahead+rest, api.ErrText, len(ahead))
}

func TestExprText(t *testing.T) {
	for _, text := range []string{
		"@", "  @", "// a@", "/* a */\n@", "a +@", "a + @", "a + // b@", "(@", "(a@", "( a @", "a @b", "a @1", "1 @a", "1@(2)", "(a)@(b)", "f(1)@(2)", "a[1]@(2)", "a++@(2)", "a@)", "@)", "(@)", "(a @b)", "(a@]", "a[@", "a[@]", "a[1@", "a[1@)", "a[1@, 2]",
		"f(@", "f(@,", "f(1@", "f(1,@", "f(1,@)", "f(1,@,2)", "f(1 @2)", "f(1@]", "f(1@;", "a@, b", "(a@, b)", "a@;", "a@:", "a ?@", "a ? b@", "a ? @:", "a ? b :@", "a ? b @c", "a ? b : c @: d", "a ? b @)", "a ? b : @? c",
		"@=", "@+ a", "a =@", "a = @= b", "a = @+", "a * @/ b", "a < @> b", "-@", "- -@", "!@", "~@)", "*@", "&@", "++@", "--@", "@+", "@&&a", "@||a", "@/ a", "@% a", "@^ a", "@| a", "@< a", "@== a", "@? a", "@: a", "@, a", "@; a", "@[1]", "@] a", "@{ a", "@} a",
		"a@{", "a@}", "a@~ b", "a@! b", "a++ @b", "a-- @1", "a++ @(b)", "a--@b", "a ++ @~ b", "-a @b", "++a @b", "@[", "a @int", "@int", "@void", "@if", "@else", "@while", "@do", "@for", "@switch", "@case", "@default", "@break", "@continue", "@return", "f(@int x)", "(@int) a", "a + @return",
	} {
		parted(t, Expr, text)
	}
}

// TestExprSigns: no operator that stands only between operands begins an expression, and no two operands stand side by side.
func TestExprSigns(t *testing.T) {
	for _, signs := range levels {
		for _, sign := range signs {
			if !strings.Contains("- * &", sign) {
				fails(t, Expr, sign+" a", api.ErrText, 0)
				fails(t, Expr, "a + "+sign+" b", api.ErrText, 4)
			}
			fails(t, Expr, "a "+sign, api.ErrText, 2+len(sign))
			fails(t, Expr, "a "+sign+" )", api.ErrText, 3+len(sign))
		}
	}
	for _, sign := range []string{"!", "~"} {
		fails(t, Expr, "a "+sign+" b", api.ErrText, 2)
	}
}

func TestUnitText(t *testing.T) {
	for _, text := range []string{
		"@x;", "@1", "@;", "@}", "@{", "@*", "@(", "@=", "@if", "@return;", "@long x;", "int@", "int @", "int x@", "int x @", "int@;", "int @1;", "int @int x;", "int @if;", "int *@", "int *@;", "int *@* x;", "int * @int x;", "int @&x;", "int@(", "int @[1] x;",
		"void@", "void@;", "void @*f(){}", "void @int x;", "void x@", "void x@;", "void x @= 1;", "void x@[1];",
		"int x; @y;", "int x;@;", "int x;@}", "int x; @1", "int x @y;", "int x@, y;", "int x@}", "int x@]", "int x@)", "int x@:", "int x @+= 1;",
		"int x =@", "int x =@;", "int x = @{1};", "int x = 1@", "int x = 1@,", "int x = 1 @2;", "int x = 1@}", "int x = (1@;", "int x = 1;@;", "int x = @", "int x = y[1@;", "int x = @int;", "int *x = @{};", "int *x@[1];",
		"int x[@", "int x[@]", "int x[@y]", "int x[@-1]", "int x[@(1)]", "int x[@int]", "int x[@+1]", "int x[1@", "int x[1 @+ 1]", "int x[1@;", "int x[1]@", "int x[1] @2;", "int x[1]@[1];", "int x[1]@(", "int x[1]@,",
		"int x[1] =@", "int x[1] =@;", "int x[1] = @1;", "int x[1] = @(1);", "int x[1] = {@", "int x[1] = {@,", "int x[1] = {@;", "int x[1] = {1@", "int x[1] = {1@;", "int x[1] = {1 @1}", "int x[2] = {1,@}", "int x[2] = {1,@", "int x[2] = {1,@,", "int x[1] = {@{1}}", "int x[1] = {1}@", "int x[1] = {1}@,", "int x[1] = {1} @= 2", "int x[1] = {} @int",
		"int f(@", "int f(@,", "int f(@x)", "int f(@void)", "int f(@1)", "int f(int@", "int f(int@)", "int f(int@,", "int f(int *@)", "int f(int *@*x)", "int f(int x@", "int f(int x@;", "int f(int x @y)", "int f(int x@[1])", "int f(int x @= 1)", "int f(int x,@", "int f(int x,@)", "int f(int x, @y)", "int f(int x,@,",
		"int f()@", "int f()@;", "int f() @x", "int f()@(", "int f() @= 1", "int f()@[", "int f() {@", "int f() {} @;", "int f() {}@}", "int f() {} @x", "int *f()@;", "void f()@;", "int f(int x) @int y;",
	} {
		parted(t, Unit, text)
	}
}

func TestActionText(t *testing.T) {
	for _, text := range []string{
		"{@", "{a;@", "@)", "@]", "@:", "@,", "@else", "@else ;", "@case 1:", "@default:", "@void x;", "@void f(){}", "@=", "@? a : b;", "a@}", "a@", "a @b;", "a@:", "a@, b;", "a@)", "{@)", "{@case 1: ;}", "{@default: ;}", "a = @{1};",
		"int@", "int@;", "int x@", "int x@}", "int x@[1];", "int x@(){}", "int x@, y;", "int x =@;", "int x = @{1};", "int x = 1@}", "int x = 1@, y;", "int *@;", "int *@*x;", "int @1;",
		"if@", "if @a", "if @{}", "if (@", "if (@)", "if (a@", "if (a@;", "if (a @b)", "if (@int x)", "if (@;)", "if (a)@", "if (a)@}", "if (a) @else", "if (a) @case 1: ;", "if (a) b @else c;", "if (a) b; else@", "if (a) b; else@}", "if (a) b; else @else", "if (a) b; else c; @else d;", "if (a) {} ; @else ;", "if (a) ;; @else ;", "if (a@, b) ;",
		"while@", "while @a", "while (@)", "while (a@", "while (a)@", "while (a)@}", "while (a@;) ;", "while (a) ; @else ;",
		"do@", "do@}", "do while (a);@", "do while (a); @b", "do a;@", "do a; @b;", "do a;@}", "do a @while (b);", "do {} @;", "do {} @until", "do {} while@", "do {} while@;", "do {} while (@)", "do {} while (a@", "do {} while (a)@", "do {} while (a) @b;", "do {} while (a)@}", "do {} while (a)@{}", "do if (a) b; @x",
		"for@", "for @{}", "for @;", "for (@", "for (@)", "for (a@", "for (a@)", "for (a@,", "for (;@", "for (;@)", "for (;;@", "for (;;@;", "for (;;a@", "for (;;a@;", "for (;;a@, b)", "for (;;@int x)", "for (;@int x;", "for (int@", "for (int@;", "for (int x@", "for (int x@)", "for (int x@, y;", "for (int x@[1];", "for (int x =@;", "for (int x = 1@)", "for (int x = 1@, y", "for (;a@)", "for (;a@,", "for (;a;b)@", "for (;;)@", "for (;;)@}", "for (;;) @else", "for (@{};;)", "for (@return;;)",
		"switch@", "switch @{", "switch (@)", "switch (a@", "switch (a)@", "switch (a) @b;", "switch (a)@;", "switch (a) @case 1: ;", "switch (a) {@", "switch (a) {case@", "switch (a) {case@:", "switch (a) {case 1@", "switch (a) {case 1@;", "switch (a) {case 1@,", "switch (a) {case a ? b@}", "switch (a) {case a ? b : c@;", "switch (a) {case 1:@", "switch (a) {default@", "switch (a) {default @1:", "switch (a) {default@;", "switch (a) {default:@",
		"switch (a) {{@case 1:}}", "switch (a) {if (b) @case 1: ;}", "switch (a) {while (b) @default: ;}", "switch (a) {} @case 1:", "switch (a) {{} case 1: {@default: }", "switch (a) {if (b) ; else @case 1:", "switch (a) {do @default: while (b);}", "switch (a) {@else",
		"break@", "break @1;", "break@}", "continue@", "continue @a;", "continue@}", "return@", "return@}", "return 1@", "return 1@}", "return 1 @2;", "return 1@, 2;", "return @int x;", "return @return;", "return@)",
		"int x;@", ";@", "a;@", "break;@", "{}@", "if (a) ;@", "@",
	} {
		ahead, rest, _ := strings.Cut(text, "@")
		parted(t, Unit, "int f() {"+ahead+"@"+rest)
	}
}

// TestScanFirst: what is wrong with a token comes ahead of everything else, wherever it stands.
func TestScanFirst(t *testing.T) {
	for _, parse := range []parser{Expr, Unit} {
		fails(t, parse, ") @", api.ErrText, 2)
		fails(t, parse, ") 09", api.ErrText, 2)
		fails(t, parse, ") abcdefghijklm", api.ErrName, 2)
		fails(t, parse, ") 9223372036854775808", api.ErrRange, 2)
		fails(t, parse, ")) /*", api.ErrText, 3)
		fails(t, parse, ") ''", api.ErrText, 2)
		fails(t, parse, strings.Repeat(")", api.MaxTokens+1), api.ErrMuch, api.MaxTokens)
		fails(t, parse, ")"+strings.Repeat(" ", api.MaxText), api.ErrMany, 0)
		fails(t, parse, "@"+strings.Repeat(" ", api.MaxText), api.ErrMany, 0)
		fails(t, parse, "int x[0]; int y[1] = {1, 2}; @", api.ErrText, 29)
	}
	fails(t, Unit, "int x[9223372036854775808];", api.ErrRange, 6)
	fails(t, Unit, "int x[0] = {a, b} abcdefghijklm", api.ErrName, 18)
}

func TestArraySizes(t *testing.T) {
	for _, text := range []string{"0", "0x0", "201", "0xc9", "9223372036854775807", `'\0'`} {
		fails(t, Unit, "int x["+text+"];", api.ErrRange, 6)
		fails(t, Unit, "int y; int  x [ "+text+"] = {1, 2, 3};", api.ErrRange, 16)
		// It comes ahead of what stands behind the number, and behind what stands ahead of it.
		fails(t, Unit, "int x["+text, api.ErrRange, 6)
		fails(t, Unit, "int x["+text+" + 1]", api.ErrRange, 6)
		fails(t, Unit, "int x["+text+"] = {1, }", api.ErrRange, 6)
		fails(t, Unit, "int *x["+text+"];", api.ErrText, 6)
		fails(t, Unit, "int f(){int x["+text+"];}", api.ErrText, 13)
		fails(t, Unit, "int y int x["+text+"];", api.ErrText, 6)
		fails(t, Unit, "int x[+"+text+"];", api.ErrText, 6)
		fails(t, Unit, "void x["+text+"];", api.ErrText, 6)
	}
	fails(t, Unit, "int x[2]; int y[0]; int z[300];", api.ErrRange, 16)
	fails(t, Unit, "int x[1] = {1, 2}; int y[0];", api.ErrSize, 11)
	fails(t, Unit, "int y[0]; int x[1] = {1, 2};", api.ErrRange, 6)
}

func TestArrayValues(t *testing.T) {
	for _, c := range []struct {
		size   string
		values int
	}{{"1", 2}, {"1", 9}, {"2", 3}, {"0xA", 11}, {"199", 200}, {"200", 201}, {"200", 202}} {
		text := "int x[" + c.size + "]= {0" + strings.Repeat(",1", c.values-1)
		fails(t, Unit, text+"};", api.ErrSize, 9+len(c.size))
		fails(t, Unit, text+"}", api.ErrSize, 9+len(c.size))
		fails(t, Unit, text+"} x", api.ErrSize, 9+len(c.size))
		// It shows only when all values are read.
		fails(t, Unit, text, api.ErrText, len(text))
		fails(t, Unit, text+";", api.ErrText, len(text))
		fails(t, Unit, text+",}", api.ErrText, len(text)+1)
		fails(t, Unit, text+", int};", api.ErrText, len(text)+2)
	}
	fails(t, Unit, "int y; int x[1] = {f(1), (2)};", api.ErrSize, 18)
	fails(t, Unit, "int x[1] = {1, 2}; int y[1] = {1, 2};", api.ErrSize, 11)
	fails(t, Unit, "int x[1] = {1, 2}; int", api.ErrSize, 11)
	parses(t, Unit, "int x[2] = {f(1, 2), (3)};", "unit(var x:array2(call f(1, 2), 3))")
	parses(t, Unit, "int x[200] = {"+strings.Repeat("1,", api.MaxWords-1)+"1};", "unit(var x:array200("+strings.Repeat("1, ", api.MaxWords-1)+"1))")
}
