package token

import (
	"math"
	"math/rand"
	"slices"
	"strings"
	"testing"
	"unsafe"

	"turnery/api"
)

func name(text string) api.Token { return api.Token{Kind: api.TokName, Text: text} }

func key(text string) api.Token { return api.Token{Kind: api.TokKey, Text: text} }

func num(text string, n int) api.Token { return api.Token{Kind: api.TokNum, Text: text, N: n} }

func signOf(text string) api.Token { return api.Token{Kind: api.TokSign, Text: text} }

func repeat(t api.Token, n int) []api.Token { return slices.Repeat([]api.Token{t}, n) }

func TestTextJoins(t *testing.T) {
	cases := []struct {
		list []api.Token
		want string
	}{
		{nil, ""},
		{[]api.Token{}, ""},
		{[]api.Token{name("a")}, "a"},
		{[]api.Token{key("int"), name("x"), signOf(";")}, "int x ;"},
		{[]api.Token{name("a"), {Kind: api.TokSign, Text: "+", At: 5}}, "a +"},
		{[]api.Token{signOf("/"), signOf("/"), signOf("*")}, "/ / *"},
		{[]api.Token{signOf("<"), signOf("<="), signOf("=")}, "< <= ="},
		{[]api.Token{num("' '", 32), num("'\\''", 39), num("'\\n'", 10), num("'\\0'", 0), num("'\\\\'", 92)}, `' ' '\'' '\n' '\0' '\\'`},
		{[]api.Token{num("0", 0), num("9223372036854775807", math.MaxInt), num("0X00fF", 255)}, "0 9223372036854775807 0X00fF"},
		{[]api.Token{{Kind: api.TokName, Text: "abcdefghijkl", At: math.MaxInt}, {Kind: api.TokKey, Text: "do", At: 1}}, "abcdefghijkl do"},
	}
	for _, c := range cases {
		if got, f := Text(c.list); got != c.want || f != (api.Fault{}) {
			t.Errorf("Text(%s) = %q, %v; want %q", show(c.list), got, f, c.want)
		}
	}
}

func textFault(t *testing.T, list []api.Token, want api.Fault) {
	t.Helper()
	if got, f := Text(list); got != "" || f != want {
		t.Errorf("Text of %d tokens: %.40q, %v; want %v and no text", len(list), got, f, want)
	}
}

func TestTextKinds(t *testing.T) {
	for _, kind := range []int{0, -1, 5, 9, math.MinInt, math.MaxInt} {
		textFault(t, []api.Token{{Kind: kind, Text: "a"}}, api.Fault{Code: api.ErrKind})
		textFault(t, []api.Token{name("a"), {Kind: kind}}, api.Fault{Code: api.ErrKind, At: 1})
		textFault(t, []api.Token{{Kind: kind, Text: "09", N: 3, At: -1}}, api.Fault{Code: api.ErrKind})
	}
}

func TestTextForms(t *testing.T) {
	form := map[int]string{
		api.TokName: "|a b|a | a|a//|/**/a|1a|0|int|return|+|a+|é|a\n|abcdefghijklm|'a'",
		api.TokKey:  "|a|ints|Int|int | int|int int|+|0|returnx|do//",
		api.TokNum:  "|a|+|-1|+1|00|09|0x|0x_1|1_0|1a|1 |1 2|9223372036854775808|0x8000000000000000|99999999999999999999a|'|''|'''|'ab'|'\\t'|'\\'|'\n'|'\x7f'|'a'b|'a' |1//|1.0|1e3",
		api.TokSign: "|a|0|do|+++|+ +|//|/**/|/*|<<<|->|@|'|\"|\\|.|;;|+ | +|=>|~=|()",
	}
	for kind, texts := range form {
		for _, text := range strings.Split(texts, "|") {
			textFault(t, []api.Token{name("x"), {Kind: kind, Text: text}}, api.Fault{Code: api.ErrForm, At: 1})
		}
	}
	// A text that is a token of another kind.
	for _, good := range []api.Token{name("a"), key("int"), num("0", 0), num("'a'", 97), signOf("+")} {
		for kind := api.TokName; kind <= api.TokSign; kind++ {
			if kind != good.Kind {
				textFault(t, []api.Token{{Kind: kind, Text: good.Text, N: good.N}}, api.Fault{Code: api.ErrForm})
			}
		}
	}
	textFault(t, []api.Token{{Kind: api.TokSign, Text: "||"}, {Kind: api.TokSign, Text: "|||"}}, api.Fault{Code: api.ErrForm, At: 1})
}

func TestTextNumbersAndOffsets(t *testing.T) {
	for _, x := range []api.Token{
		num("0", 1), num("7", 0), num("7", -7), num("0x10", 10), num("'a'", 0), num("'a'", 98), num("'\\n'", 'n'), num("'0'", 0),
		num("9223372036854775808", math.MinInt), num("0xffffffffffffffff", -1),
		{Kind: api.TokName, Text: "a", N: 1}, {Kind: api.TokKey, Text: "if", N: -1}, {Kind: api.TokSign, Text: "+", N: math.MaxInt},
		{Kind: api.TokName, Text: "a", At: -1}, {Kind: api.TokNum, Text: "1", N: 1, At: math.MinInt},
		{Kind: api.TokKey, Text: "if", At: -1}, {Kind: api.TokSign, Text: "+", At: -9},
	} {
		textFault(t, []api.Token{x}, api.Fault{Code: api.ErrForm})
		textFault(t, []api.Token{name("a"), name("b"), x, {Kind: 7}}, api.Fault{Code: api.ErrForm, At: 2})
	}
}

func TestTextLimits(t *testing.T) {
	if got, f := Text(repeat(signOf(";"), api.MaxTokens)); f != (api.Fault{}) || len(got) != 2*api.MaxTokens-1 {
		t.Errorf("%d tokens: %d bytes, %v", api.MaxTokens, len(got), f)
	}
	textFault(t, repeat(signOf(";"), api.MaxTokens+1), api.Fault{Code: api.ErrMany})
	textFault(t, repeat(api.Token{}, api.MaxTokens+1), api.Fault{Code: api.ErrMany})
	textFault(t, repeat(api.Token{}, api.MaxTokens), api.Fault{Code: api.ErrKind})

	// 400 names of 4 bytes come to 1999 bytes with the blanks, and a longer last one fills the text.
	full := repeat(name("abcd"), 400)
	full[399] = name("abcde")
	if got, f := Text(full); f != (api.Fault{}) || len(got) != api.MaxText {
		t.Errorf("full text: %d bytes, %v", len(got), f)
	}
	full[399] = name("abcdef")
	textFault(t, full, api.Fault{Code: api.ErrMuch})
	textFault(t, append(full, key("x")), api.Fault{Code: api.ErrForm, At: 400})
	textFault(t, append(full, api.Token{Kind: 5}), api.Fault{Code: api.ErrKind, At: 400})
}

func TestTextLongNumber(t *testing.T) {
	long := num("0x"+strings.Repeat("0", api.MaxText-3)+"9", 9)
	if got, f := Text([]api.Token{long}); f != (api.Fault{}) || got != long.Text {
		t.Errorf("number of %d bytes: %d bytes, %v", len(long.Text), len(got), f)
	}
	textFault(t, []api.Token{long, signOf(";")}, api.Fault{Code: api.ErrMuch})
	// A number may be longer than a text; that it is one is settled ahead of the text's length.
	longer := num("0x"+strings.Repeat("0", api.MaxText)+"9", 9)
	textFault(t, []api.Token{longer}, api.Fault{Code: api.ErrMuch})
	textFault(t, []api.Token{longer, {Kind: 5}}, api.Fault{Code: api.ErrKind, At: 1})
	longer.N = 8
	textFault(t, []api.Token{longer}, api.Fault{Code: api.ErrForm})
	textFault(t, []api.Token{name(strings.Repeat("a", api.MaxText+1))}, api.Fault{Code: api.ErrForm})
}

func TestTextScansBack(t *testing.T) {
	r := rand.New(rand.NewSource(3))
	seen := 0
	for i := 0; i < 20000; i++ {
		list, f := Scan(randomText(r, i%8 == 0))
		if f != (api.Fault{}) {
			continue
		}
		seen++
		text, f := Text(list)
		if f != (api.Fault{}) {
			t.Fatalf("Text(%s): %v", show(list), f)
		}
		again, f := Scan(text)
		if f != (api.Fault{}) || len(again) != len(list) {
			t.Fatalf("Scan(%q) = %s, %v; want %s", text, show(again), f, show(list))
		}
		at := 0
		for k := range list {
			if again[k].At != at {
				t.Fatalf("Scan(%q): token %d at %d, want %d", text, k, again[k].At, at)
			}
			at += len(list[k].Text) + 1
			list[k].At, again[k].At = 0, 0
		}
		if !slices.Equal(again, list) {
			t.Fatalf("Scan(%q) = %s; want %s", text, show(again), show(list))
		}
	}
	if seen < 5000 {
		t.Errorf("only %d texts could be scanned", seen)
	}
}

func TestArgumentsStay(t *testing.T) {
	backing := []api.Token{name("a"), signOf("+"), name("b"), {Kind: 9, Text: "spare", N: 1, At: 2}}
	before := slices.Clone(backing)
	list := backing[:3]
	first, _ := Text(list)
	second, _ := Text(list)
	if !slices.Equal(backing, before) || first != "a + b" || second != first {
		t.Errorf("%v became %v; texts %q, %q", before, backing, first, second)
	}
	one, _ := Scan("x y")
	two, _ := Scan("x y")
	one[0].Text, one[1].N = "z", 4
	if show(two) != "1:x@0 1:y@2" {
		t.Errorf("a result changed with another: %s", show(two))
	}
}

func TestResultsAreNew(t *testing.T) {
	text := strings.Clone("name 12 'a' while +=")
	list, _ := Scan(text)
	for _, x := range list {
		if unsafe.StringData(x.Text) == unsafe.StringData(text[x.At:]) {
			t.Errorf("token %q shares the memory of its source", x.Text)
		}
	}
	word := strings.Clone("name")
	if got, _ := Text([]api.Token{name(word)}); unsafe.StringData(got) == unsafe.StringData(word) {
		t.Error("a text shares the memory of its only token")
	}
}
