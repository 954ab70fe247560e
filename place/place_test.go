package place_test

import (
	"fmt"
	"math"
	"strconv"
	"strings"
	"testing"

	"turnery/api"
	"turnery/place"
)

// TestOrder: globals stand one behind the other in the order of their declarations, whatever functions there are.
func TestOrder(t *testing.T) {
	at(t, "void main() {}", "")
	at(t, "int a; void main() {}", "a 0")
	at(t, "int *a; void main() {}", "a 0")
	at(t, "int a[7]; void main() {}", "a 0")
	at(t, "int a; int b; void main() {}", "a 0, b 1")
	at(t, "int *a; int *b; void main() {}", "a 0, b 1")
	at(t, "int a[3]; int b; void main() {}", "a 0, b 3")
	at(t, "int b; int a[3]; void main() {}", "b 0, a 1")
	at(t, "int a[1]; int b[1]; int c; void main() {}", "a 0, b 1, c 2")
}

// TestFunctions: functions, and what they declare, have no words.
func TestFunctions(t *testing.T) {
	f := "int f(int n, int *m) { int l; int *k; { int l = n; } return l; } "
	at(t, f+"void main() {} int a[4]; int b;", "a 0, b 4")
	at(t, "int a[4]; "+f+"int b; void main() {} int *c; ", "a 0, b 4, c 5")
	at(t, "int a[4]; int b; "+f+"void main() { int a; int b; }", "a 0, b 4")
	at(t, f+"int *a; void main() {} int g() { return 1; } int b[2]; int *h() { return b; } void v(int a, int b) {} int c;", "a 0, b 1, c 3")
}

// TestKinds puts each two and three kinds of globals one behind the other, with functions and without.
func TestKinds(t *testing.T) {
	kinds := []struct {
		text  string
		words int
	}{{"int %s; ", 1}, {"int *%s; ", 1}, {"int %s[1]; ", 1}, {"int %s[2]; ", 2}, {"int %s[60]; ", 60}, {"int %s = 5; ", 1}, {"int %s[7] = {}; ", 7}, {"int %s[8] = {1, 2}; ", 8}, {"int %s[3] = {4, 5, 6}; ", 3}}
	for _, a := range kinds {
		for _, b := range kinds {
			for _, c := range kinds {
				want := fmt.Sprint("a 0, b ", a.words, ", c ", a.words+b.words)
				at(t, fmt.Sprintf(a.text+b.text+c.text+"void main() {}", "a", "b", "c"), want)
				at(t, fmt.Sprintf("void f() {} "+a.text+"int g(int n) { return n; } "+b.text+c.text+"void main() {}", "a", "b", "c"), want)
			}
		}
	}
}

// TestAllGlobals has as many of them as may be.
func TestAllGlobals(t *testing.T) {
	at(t, "int a; int *b; int c[3]; int d; int e[10]; int *f; int g[1]; int h; int i[5]; int j; void main() {}", "a 0, b 1, c 2, d 5, e 6, f 16, g 17, h 18, i 19, j 24")
	at(t, "int a[191]; int b; int c; int d; int e; int f; int g; int h; int i; int j; void main() {}", "a 0, b 191, c 192, d 193, e 194, f 195, g 196, h 197, i 198, j 199")
	at(t, "int b; int c; int d; int e; int f; int g; int h; int i; int j; int a[191]; void main() {}", "b 0, c 1, d 2, e 3, f 4, g 5, h 6, i 7, j 8, a 9")
	at(t, "int a[200]; void main() {}", "a 0")
}

// everyKind is a unit of nodes of every kind without a fault.
const everyKind = `int g; int *h; int a[2] = {1, 2 - 3};
	int f(int n, int *m) {
		int l = n; int *k;
		{ l++; ; }
		if (n && g) return 1; else return n ? 2 : g;
		while (!n) break;
		do continue; while (a[0]);
		for (;;) ;
		for (int i = 0; i < 3 * 4; i += 1) --k;
		switch (n) { case 1 + 1: f(2, h); default: print(read()); }
		return *&g - l;
	}
	int z = 7;
	void main() { int g; int h; int a; g = h + a; }`

// TestOf: only nodes that declare globals have a word.
func TestOf(t *testing.T) {
	of := unitOf(t, everyKind)
	kinds := map[int]bool{}
	for _, n := range of.Nodes {
		kinds[n.Kind] = true
	}
	if len(kinds) != 4+14+10 {
		t.Errorf("%d kinds", len(kinds))
	}
	at(t, everyKind, "g 0, h 1, a 2, z 4")
	for _, k := range strangers(of) {
		noPlace(t, everyKind, of, k)
	}
	// The number is that of the node, not that of the global.
	list := unitOf(t, "int a[5] = {1, 2, 3}; int b; void main() {}")
	for k, want := range []string{"0 {6 -1}", "0 {6 -1}", "0 {6 -1}", "0 {0 0}", "5 {0 0}", "0 {6 -1}", "0 {6 -1}", "0 {6 -1}"} {
		first, f := place.Of(list, k)
		if got := fmt.Sprint(first, f); got != want {
			t.Errorf("node %d: %s; want %s", k, got, want)
		}
	}
}

// TestGlobals: of each global its name, its words and its initial values, without those that are not there.
func TestGlobals(t *testing.T) {
	has(t, "void main() {}")
	has(t, "void main() {} void f() { int x = 1; int y; }")
	has(t, "int a; void main() {}", api.Global{Name: "a", Size: 1})
	has(t, "int *a; void main() {}", api.Global{Name: "a", Size: 1})
	has(t, "int a = 0; void main() {}", api.Global{Name: "a", Size: 1, Init: []int{0}})
	has(t, "int a = 5; void main() {}", api.Global{Name: "a", Size: 1, Init: []int{5}})
	has(t, "int a[9]; void main() {}", api.Global{Name: "a", Size: 9})
	has(t, "int a[9] = {}; void main() {}", api.Global{Name: "a", Size: 9})
	has(t, "int a[9] = {0}; void main() {}", api.Global{Name: "a", Size: 9, Init: []int{0}})
	has(t, "int a[1] = {8}; void main() {}", api.Global{Name: "a", Size: 1, Init: []int{8}})
	has(t, "int a[3] = {4, 0}; void main() {}", api.Global{Name: "a", Size: 3, Init: []int{4, 0}})
	has(t, "int a[3] = {0, 0, 7}; void main() {}", api.Global{Name: "a", Size: 3, Init: []int{0, 0, 7}})
	has(t, "int a[3] = {3, 1, 2}; void main() {}", api.Global{Name: "a", Size: 3, Init: []int{3, 1, 2}})
	has(t, "void f() {} int _B2 = 1; int f2(int n) { int x = 5; return n; } int a_long_name1[2] = {2, 3}; void main() {} int *B; int c = 4;",
		api.Global{Name: "_B2", Size: 1, Init: []int{1}}, api.Global{Name: "a_long_name1", Size: 2, Init: []int{2, 3}}, api.Global{Name: "B", Size: 1}, api.Global{Name: "c", Size: 1, Init: []int{4}})
	has(t, everyKind, api.Global{Name: "g", Size: 1}, api.Global{Name: "h", Size: 1}, api.Global{Name: "a", Size: 2, Init: []int{1, -1}}, api.Global{Name: "z", Size: 1, Init: []int{7}})
	// Of names that differ in nothing but capitals each is its own.
	has(t, "int x = 1; int X = 2; void main() {}", api.Global{Name: "x", Size: 1, Init: []int{1}}, api.Global{Name: "X", Size: 1, Init: []int{2}})
}

// steady are constant expressions with their values.
func steady() map[string]int {
	return map[string]int{
		"0": 0, "7": 7, "0x1F": 31, "'a'": 97, "'\\0'": 0, "(5)": 5, "-1": -1, "-7": -7, "- -7": 7, "~0": -1, "~5": -6, "!5": 0, "!0": 1,
		"9223372036854775807": math.MaxInt, "-9223372036854775807": math.MinInt + 1, "-9223372036854775807 - 1": math.MinInt, "9223372036854775807 + 1": math.MinInt, "1 << 63": math.MinInt, "1 << 64": 1,
		"1 + 2 * 3": 7, "2 - 3 - 4": -5, "-7 / 2": -3, "-7 % 2": -1, "(-9223372036854775807 - 1) / -1": math.MinInt, "6 & 3": 2, "6 | 3": 7, "6 ^ 3": 5, "-9 >> 1": -5,
		"2 == 2": 1, "2 != 2": 0, "-1 < 0": 1, "1 <= 0": 0, "1 > 0": 1, "0 >= 1": 0, "2 && 3": 1, "2 && 0": 0, "0 || 0": 0, "0 || 9": 1, "1 ? 2 : 3": 2, "0 ? 2 : -3": -3,
	}
}

// TestInitialValues: each initial value is that of its expression.
func TestInitialValues(t *testing.T) {
	for text, value := range steady() {
		has(t, "int a = "+text+"; void main() {}", api.Global{Name: "a", Size: 1, Init: []int{value}})
		has(t, "int z = 1; void main() {} int a = ("+text+"); int b;", api.Global{Name: "z", Size: 1, Init: []int{1}}, api.Global{Name: "a", Size: 1, Init: []int{value}}, api.Global{Name: "b", Size: 1})
		has(t, "int a[4] = {"+text+"}; void main() {}", api.Global{Name: "a", Size: 4, Init: []int{value}})
		for other, second := range steady() {
			has(t, "int a[3] = {"+text+", "+other+", "+text+"}; int b = "+other+"; void main() {}",
				api.Global{Name: "a", Size: 3, Init: []int{value, second, value}}, api.Global{Name: "b", Size: 1, Init: []int{second}})
		}
	}
}

// TestManyValues has as many initial values as there are words.
func TestManyValues(t *testing.T) {
	var texts []string
	var values []int
	for k := range api.MaxWords {
		value := (k*37 + 5) % 100
		texts, values = append(texts, strconv.Itoa(value)), append(values, value)
	}
	list := func(from, to int) string { return "{" + strings.Join(texts[from:to], ",") + "}" }
	has(t, "int a[200] = "+list(0, 200)+"; void main() {}", api.Global{Name: "a", Size: 200, Init: values})
	has(t, "int a[200] = "+list(0, 199)+"; void main() {}", api.Global{Name: "a", Size: 200, Init: values[:199]})
	has(t, "int a[90] = "+list(0, 80)+"; void main() {} int b[110] = "+list(80, 190)+";", api.Global{Name: "a", Size: 90, Init: values[:80]}, api.Global{Name: "b", Size: 110, Init: values[80:190]})
}
