package scope_test

import (
	"strings"
	"testing"

	"turnery/api"
	"turnery/parse"
	"turnery/scope"
)

// marks of a text: by the offset of a name what stands behind it after a #, an @ or a $.
type marks map[int]string

func isOfName(c byte) bool {
	return c == '_' || '0' <= c && c <= '9' || 'a' <= c && c <= 'z' || 'A' <= c && c <= 'Z'
}

// unmark takes the marks out of a text of names like these: x#1 declares what x@1 stands for, read@- stands for nothing, y$ is a fault.
func unmark(t *testing.T, marked string) (string, marks) {
	t.Helper()
	all := marks{}
	text := ""
	for i := 0; i < len(marked); i++ {
		if !strings.ContainsRune("#@$", rune(marked[i])) {
			text += marked[i : i+1]
			continue
		}
		end := i + 1
		if strings.HasPrefix(marked[end:], "-") {
			end++
		}
		for end < len(marked) && isOfName(marked[end]) {
			end++
		}
		start := len(text)
		for start > 0 && isOfName(text[start-1]) {
			start--
		}
		if start == len(text) {
			t.Fatalf("%s: no name ahead of a mark", marked)
		}
		all[start] = marked[i:end]
		i = end - 1
	}
	return text, all
}

// unitOf is the tree of a text that has no faults.
func unitOf(t *testing.T, text string) api.Tree {
	t.Helper()
	of, f := parse.Unit(text)
	if f != (api.Fault{}) {
		t.Fatalf("%s: %v", text, f)
	}
	return of
}

func declares(kind int) bool {
	return kind == api.TopVar || kind == api.TopFunc || kind == api.TopParam || kind == api.DoVar
}

func uses(kind int) bool { return kind == api.IsName || kind == api.IsCall }

// resolves tells the test where the names of a marked text, each of whose uses has a mark, do not stand for what they shall.
func resolves(t *testing.T, marked string) api.Tree {
	t.Helper()
	text, all := unmark(t, marked)
	of := unitOf(t, text)
	by := map[string]int{"@-": -1}
	for k, n := range of.Nodes {
		if mark := all[n.At]; declares(n.Kind) && mark != "" {
			if _, twice := by["@"+mark[1:]]; twice || mark[0] != '#' {
				t.Fatalf("%s: the mark %s", marked, mark)
			}
			by["@"+mark[1:]] = k
		}
	}
	got, f := scope.Names(of)
	if f != (api.Fault{}) || len(got) != len(of.Nodes) {
		t.Fatalf("%s: %v, %v", marked, got, f)
	}
	for k, n := range of.Nodes {
		want := -1
		if declares(n.Kind) {
			want = k
		}
		if uses(n.Kind) {
			declared, ok := by[all[n.At]]
			if !ok {
				t.Fatalf("%s: %s at %d has the mark %q", marked, n.Text, n.At, all[n.At])
			}
			want = declared
		}
		if got[k] != want {
			t.Errorf("%s: node %d (%s at %d) stands for %d; want %d", marked, k, n.Text, n.At, got[k], want)
		}
	}
	return of
}

// fails tells the test if the names of a tree do not have just that fault.
func fails(t *testing.T, what string, of api.Tree, want api.Fault) {
	t.Helper()
	if got, f := scope.Names(of); f != want || len(got) != 0 {
		t.Errorf("%s: %v, %v; want %v", what, got, f, want)
	}
}

// faulty tells the test if the fault of a text is another one, or at another name, than that with the $.
func faulty(t *testing.T, marked string, code int) {
	t.Helper()
	text, all := unmark(t, marked)
	of := unitOf(t, text)
	at := -1
	for k, n := range of.Nodes {
		if all[n.At] == "$" && (declares(n.Kind) || uses(n.Kind)) {
			at = k
		}
	}
	if len(all) != 1 || at < 0 {
		t.Fatalf("%s: not one name with a $", marked)
	}
	fails(t, marked, of, api.Fault{Code: code, At: at})
}
