package types_test

import (
	"strconv"
	"strings"
	"testing"
)

// lists is all lists of up to so many letters.
func lists(of []string, most int) [][]string {
	all := [][]string{nil}
	if most == 0 {
		return all
	}
	for _, list := range lists(of, most-1) {
		for _, letter := range of {
			all = append(all, append(list[:len(list):len(list)], letter))
		}
	}
	return all
}

// starOf is what stands between int and a name of the type.
func starOf(letter string) string { return strings.Repeat("*", strings.Count(letter, "p")) }

// function has the parameters and the result of these letters, and the body.
func function(result, name string, params []string, body string) string {
	var list []string
	for k, letter := range params {
		list = append(list, "int "+starOf(letter)+"x"+strconv.Itoa(k))
	}
	typ := "int " + starOf(result)
	if result == "v" {
		typ = "void "
	}
	return typ + name + "(" + strings.Join(list, ", ") + ") {" + body + "} "
}

// argsOf is arguments of these letters, each time other ones of the type.
func argsOf(list []string, turn int) string {
	var args []string
	for k, letter := range list {
		some := someOf(letter)
		args = append(args, some[(turn+k)%len(some)])
	}
	return "(" + strings.Join(args, ", ") + ")"
}

// TestCalls: a call has the type of the function's result if its arguments have those of the parameters, no more and no fewer.
func TestCalls(t *testing.T) {
	turn := 0
	for _, result := range letters() {
		for _, params := range lists([]string{"i", "p"}, 3) {
			f := function(result, "f", params, "")
			for _, args := range lists(letters(), len(params)+1) {
				want := "-"
				if strings.Join(args, "") == strings.Join(params, "") {
					want = result
				}
				turn++
				tells(t, f+inWorld("f"+argsOf(args, turn)+";"), want)
			}
		}
	}
}

// TestLongCalls: all arguments count, up to the last one, also of more of them than a function can have later on.
func TestLongCalls(t *testing.T) {
	for count := range 9 {
		params := strings.Split(strings.Repeat("ip", 9)[:count], "")
		f := function("p", "f", params, "")
		tells(t, f+inWorld("f"+argsOf(params, count)+";"), "p")
		for k := range params {
			for _, other := range letters() {
				args := append([]string{}, params...)
				args[k] = other
				want := "-"
				if other == params[k] {
					want = "p"
				}
				tells(t, f+inWorld("f"+argsOf(args, count)+";"), want)
			}
			tells(t, f+inWorld("f"+argsOf(append(params[:k:k], params[k+1:]...), count)+";"), "-")
		}
		for _, more := range letters() {
			tells(t, f+inWorld("f"+argsOf(append(params[:count:count], more), count)+";"), "-")
		}
	}
}

// TestReadAndPrint: read takes nothing, print takes a number, and each tells a number.
func TestReadAndPrint(t *testing.T) {
	for turn := range 30 {
		for _, args := range lists(letters(), 3) {
			joined := strings.Join(args, "")
			is(t, "read"+argsOf(args, turn), resultOf(":i", joined))
			is(t, "print"+argsOf(args, turn), resultOf("i:i", joined))
		}
	}
	is(t, "print(print(read()) + read())", "i")
	wrongType(t, "print($print(p));")
	wrongType(t, "int *print; $print(print);")
}

// TestCallees: the parameters and the result are those of the function that the call names.
func TestCallees(t *testing.T) {
	for _, c := range []struct{ text, letter string }{
		{"int f() {} int *g() {} void main() { f(); }", "i"}, {"int f() {} int *g() {} void main() { g(); }", "p"}, {"void f() {} int g() {} void main() { f(); }", "v"},
		{"void main() { f(1); } int *f(int x) {}", "p"}, {"void main() { f(); } int *f(int x) {}", "-"},
		{"int f(int x) { f(x); } void main() {}", "i"}, {"int f(int *x) { f(*x); } void main() {}", "-"}, {"int main() { main(); }", "i"}, {"void main() { main(); }", "v"}, {"int *main() { main(); }", "p"}, {"int main() { main(1); }", "-"},
		{"int f(int x) {} int *g(int x) {} void main() { f(*g(f(*g(1)))); }", "i"}, {"int f(int x) {} int *g(int x) {} void main() { g(*g(f(g(1)[2]))); }", "p"},
		// A local of the name is not what is called.
		{"int *f() { int f; f(); } void main() {}", "p"}, {"int f(int *f) { f(f); } void main() {}", "i"}, {"int f(int *f) { f(*f); } void main() {}", "-"}, {"void main() { int *read; read(); }", "i"}, {"void main(){ int *print; print(1); }", "i"}, {"void main() { int *print; print(print); }", "-"},
		// Neither are locals of a function its parameters.
		{"int f(int x) { int *y; { int *z; } } void main() { f(1); }", "i"}, {"int f() { int y; } void main() { f(1); }", "-"},
	} {
		tells(t, c.text, c.letter)
	}
}
