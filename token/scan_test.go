package token

import (
	"math/big"
	"math/rand"
	"regexp"
	"slices"
	"strings"
	"testing"

	"turnery/api"
)

func TestScanExample(t *testing.T) {
	got, f := Scan("x1+=0x1f")
	want := []api.Token{{Kind: api.TokName, Text: "x1"}, {Kind: api.TokSign, Text: "+=", At: 2}, {Kind: api.TokNum, Text: "0x1f", N: 31, At: 4}}
	if f != (api.Fault{}) || !slices.Equal(got, want) {
		t.Errorf("got %v, %v; want %v", got, f, want)
	}
}

func TestScanProgram(t *testing.T) {
	scanAll(t, []scanCase{
		{"int f(int *p) { return p[0] << 2; } // f", "3:int@0 1:f@4 4:(@5 3:int@6 4:*@10 1:p@11 4:)@12 4:{@14 3:return@16 1:p@23 4:[@24 2:0=0@25 4:]@26 4:<<@28 2:2=2@31 4:;@32 4:}@34"},
		{"case '\\n':x--;", "3:case@0 2:'\\n'=10@5 4::@9 1:x@10 4:--@11 4:;@13"},
	})
}

func TestScanNameLimit(t *testing.T) {
	most := strings.Repeat("n", api.MaxName)
	scanAll(t, []scanCase{{most, "1:" + most + "@0"}, {"_123456789Az", "1:_123456789Az@0"}})
	faultAll(t, []faultCase{
		{most + "n", api.Fault{Code: api.ErrName}},
		{"a " + most + "1 @", api.Fault{Code: api.ErrName, At: 2}},
		{strings.Repeat("_", api.MaxText), api.Fault{Code: api.ErrName}},
		{"returnreturnreturn", api.Fault{Code: api.ErrName}},
	})
}

func TestScanTextLimit(t *testing.T) {
	x := api.MaxText - 1
	for _, text := range []string{strings.Repeat(" ", x) + "x", "//" + strings.Repeat("x", x-1), "0x" + strings.Repeat("0", x-2) + "7"} {
		if _, f := Scan(text); f != (api.Fault{}) {
			t.Errorf("%d bytes: %v", len(text), f)
		}
	}
	faultAll(t, []faultCase{
		{strings.Repeat(" ", api.MaxText+1), api.Fault{Code: api.ErrMany}},
		{"@" + strings.Repeat(" ", api.MaxText), api.Fault{Code: api.ErrMany}},
		{"/*" + strings.Repeat(" ", api.MaxText), api.Fault{Code: api.ErrMany}},
		{strings.Repeat(";", api.MaxText+1), api.Fault{Code: api.ErrMany}},
		{strings.Repeat("a", api.MaxText*3), api.Fault{Code: api.ErrMany}},
	})
}

func TestScanTokenLimit(t *testing.T) {
	full := strings.Repeat(";", api.MaxTokens)
	for _, tail := range []string{"", " ", "//", " /**/", "\t//@\n\n"} {
		if l, f := Scan(full + tail); f != (api.Fault{}) || len(l) != api.MaxTokens {
			t.Errorf("tail %q: %d tokens, %v", tail, len(l), f)
		}
	}
	for _, next := range []string{";", "a", "0", "@", "09", "'", "99999999999999999999", "abcdefghijklm", "\xff", "/"} {
		faultAll(t, []faultCase{
			{full + next, api.Fault{Code: api.ErrMuch, At: api.MaxTokens}},
			{full + " /**/\n" + next, api.Fault{Code: api.ErrMuch, At: api.MaxTokens + 6}},
		})
	}
	faultAll(t, []faultCase{
		{full + "/*", api.Fault{Code: api.ErrText, At: api.MaxTokens}},
		{full + " /* ;", api.Fault{Code: api.ErrText, At: api.MaxTokens + 1}},
		{full + ";/*", api.Fault{Code: api.ErrMuch, At: api.MaxTokens}},
		{full[1:] + "@;;", api.Fault{Code: api.ErrText, At: api.MaxTokens - 1}},
	})
}

func TestScanFirstFault(t *testing.T) {
	faultAll(t, []faultCase{
		{"@ 09", api.Fault{Code: api.ErrText}}, {"09 @", api.Fault{Code: api.ErrText}},
		{"a @ abcdefghijklm", api.Fault{Code: api.ErrText, At: 2}}, {"a abcdefghijklm @", api.Fault{Code: api.ErrName, At: 2}},
		{"9223372036854775808 0x /*", api.Fault{Code: api.ErrRange}}, {"0x 9223372036854775808", api.Fault{Code: api.ErrText}},
		{"a 'bc' /*", api.Fault{Code: api.ErrText, At: 2}}, {"a#", api.Fault{Code: api.ErrText, At: 1}}, {"é", api.Fault{Code: api.ErrText}},
		{"a\r\n", api.Fault{Code: api.ErrText, At: 1}}, {"\"a\"", api.Fault{Code: api.ErrText}}, {"\\", api.Fault{Code: api.ErrText}},
	})
}

var (
	modelGap  = regexp.MustCompile(`^(?:[ \t\n]|//[^\n]*|/\*(?s:.*?)\*/)*`)
	modelWord = regexp.MustCompile(`^[A-Za-z_0-9]*`)
	modelNum  = regexp.MustCompile(`^(?:0|[1-9][0-9]*|0[xX][0-9a-fA-F]+)$`)
	modelChar = regexp.MustCompile(`^'(?:[ -&(-\[\]-~]|\\[n0\\'])'`)
)

// modelToken is the token at the start of rest by R1.1, written another way than in the package.
func modelToken(rest string) (api.Token, int) {
	word := modelWord.FindString(rest)
	switch {
	case word == "" && rest[0] == '\'':
		text := modelChar.FindString(rest)
		if text == "" {
			return api.Token{}, api.ErrText
		}
		n := int(text[len(text)-2])
		if len(text) == 4 {
			n = map[byte]int{'n': 10, '0': 0, '\\': 92, '\'': 39}[text[2]]
		}
		return api.Token{Kind: api.TokNum, Text: text, N: n}, api.OK
	case word == "":
		text := longestSign(rest)
		if text == "" {
			return api.Token{}, api.ErrText
		}
		return api.Token{Kind: api.TokSign, Text: text}, api.OK
	case word[0] <= '9':
		n, ok := new(big.Int).SetString(word, 0)
		if !modelNum.MatchString(word) || !ok {
			return api.Token{}, api.ErrText
		}
		if !n.IsInt64() {
			return api.Token{}, api.ErrRange
		}
		return api.Token{Kind: api.TokNum, Text: word, N: int(n.Int64())}, api.OK
	case slices.Contains(keys, word):
		return api.Token{Kind: api.TokKey, Text: word}, api.OK
	case len(word) > api.MaxName:
		return api.Token{}, api.ErrName
	}
	return api.Token{Kind: api.TokName, Text: word}, api.OK
}

func modelScan(text string) ([]api.Token, api.Fault) {
	if len(text) > api.MaxText {
		return nil, api.Fault{Code: api.ErrMany}
	}
	var l []api.Token
	for at := 0; ; {
		at += len(modelGap.FindString(text[at:]))
		if at == len(text) {
			return l, api.Fault{}
		}
		if strings.HasPrefix(text[at:], "/*") {
			return nil, api.Fault{Code: api.ErrText, At: at}
		}
		if len(l) == api.MaxTokens {
			return nil, api.Fault{Code: api.ErrMuch, At: at}
		}
		t, code := modelToken(text[at:])
		if code != api.OK {
			return nil, api.Fault{Code: code, At: at}
		}
		t.At = at
		l = append(l, t)
		at += len(t.Text)
	}
}

// randomText is made of pieces that touch the rules of the grammar; wild: of bytes that do not, too.
func randomText(r *rand.Rand, wild bool) string {
	pieces := slices.Concat(keys, signs, signs)
	pieces = append(pieces, strings.Split(" |\t|\n|\n|a|_b1|Z|0|1|42|0x1F|0X0|'a'|'\\n'|'\\''|' '|//c\n|/*d*/|/***/| | ", "|")...)
	if wild {
		pieces = append(pieces, "/*", "//", "*/", "'", "\\", "@", "\r", "\x00", "\xff", "é", "0x", "09", "99999999999999999999", "9223372036854775807", "9223372036854775808", "abcdefghijkl", "abcdefghijklm")
	}
	var b strings.Builder
	for n := r.Intn(12); n > 0; n-- {
		b.WriteString(pieces[r.Intn(len(pieces))])
	}
	return b.String()
}

func TestScanModel(t *testing.T) {
	r := rand.New(rand.NewSource(1))
	for i := 0; i < 30000; i++ {
		text := randomText(r, i%2 == 0)
		got, f := Scan(text)
		want, g := modelScan(text)
		if f != g || !slices.Equal(got, want) {
			t.Fatalf("Scan(%q) = %s, %v; want %s, %v", text, show(got), f, show(want), g)
		}
	}
}

func TestScanModelBytes(t *testing.T) {
	r := rand.New(rand.NewSource(2))
	for i := 0; i < 20000; i++ {
		b := make([]byte, r.Intn(8))
		for k := range b {
			b[k] = byte(r.Intn(256))
			if i%2 == 0 {
				b[k] = "/*'\\n0x \n9a+=<"[r.Intn(14)]
			}
		}
		got, f := Scan(string(b))
		want, g := modelScan(string(b))
		if f != g || !slices.Equal(got, want) {
			t.Fatalf("Scan(%q) = %s, %v; want %s, %v", b, show(got), f, show(want), g)
		}
	}
}
