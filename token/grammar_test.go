package token

import (
	"fmt"
	"strings"
	"testing"

	"turnery/api"
)

// keys and signs are those of R1.1, copied from the document rather than taken from the package.
var keys = strings.Fields("int void if else while do for switch case default break continue return")
var signs = strings.Fields("<<= >>= << >> <= >= == != && || += -= *= /= %= &= ^= |= ++ -- + - * / % & | ^ ~ ! < > = ? : ; , ( ) [ ] { }")

// show writes tokens as kind:text, with =number behind a number and @offset behind each.
func show(l []api.Token) string {
	var words []string
	for _, t := range l {
		w := fmt.Sprintf("%d:%s", t.Kind, t.Text)
		if t.Kind == api.TokNum || t.N != 0 {
			w += fmt.Sprintf("=%d", t.N)
		}
		words = append(words, fmt.Sprintf("%s@%d", w, t.At))
	}
	return strings.Join(words, " ")
}

type scanCase struct{ text, want string }

func scanAll(t *testing.T, cases []scanCase) {
	t.Helper()
	for _, c := range cases {
		l, f := Scan(c.text)
		if got := show(l); f != (api.Fault{}) || got != c.want {
			t.Errorf("Scan(%q) = %s, %v; want %s", c.text, got, f, c.want)
		}
	}
}

type faultCase struct {
	text string
	want api.Fault
}

func faultAll(t *testing.T, cases []faultCase) {
	t.Helper()
	for _, c := range cases {
		if l, f := Scan(c.text); len(l) != 0 || f != c.want {
			t.Errorf("Scan(%.60q) = %s, %v; want %v and no tokens", c.text, show(l), f, c.want)
		}
	}
}

func TestNamesAndKeys(t *testing.T) {
	for _, k := range keys {
		scanAll(t, []scanCase{
			{k, "3:" + k + "@0"},
			{k + "s", "1:" + k + "s@0"},
			{"_" + k, "1:_" + k + "@0"},
			{k[:1] + "_" + k[1:], "1:" + k[:1] + "_" + k[1:] + "@0"},
			{strings.ToUpper(k), "1:" + strings.ToUpper(k) + "@0"},
			{k + "(" + k, "3:" + k + "@0 4:(@" + fmt.Sprint(len(k)) + " 3:" + k + "@" + fmt.Sprint(len(k)+1)},
		})
	}
	scanAll(t, []scanCase{
		{"_", "1:_@0"}, {"a", "1:a@0"}, {"z9", "1:z9@0"}, {"A0Z", "1:A0Z@0"}, {"__1", "1:__1@0"},
		{"struct", "1:struct@0"}, {"goto", "1:goto@0"}, {"int int2", "3:int@0 1:int2@4"},
	})
}

func TestSigns(t *testing.T) {
	for _, s := range signs {
		scanAll(t, []scanCase{
			{s, "4:" + s + "@0"},
			{"a" + s + "b", fmt.Sprintf("1:a@0 4:%s@1 1:b@%d", s, 1+len(s))},
			{" " + s + " 7", fmt.Sprintf("4:%s@1 2:7=7@%d", s, 2+len(s))},
		})
	}
	scanAll(t, []scanCase{
		{"<<==", "4:<<=@0 4:=@3"}, {">>>=", "4:>>@0 4:>=@2"}, {"<<<", "4:<<@0 4:<@2"},
		{"+++", "4:++@0 4:+@2"}, {"--->", "4:--@0 4:-@2 4:>@3"}, {"&&&=", "4:&&@0 4:&=@2"},
		{"|||", "4:||@0 4:|@2"}, {"===", "4:==@0 4:=@2"}, {"!==", "4:!=@0 4:=@2"},
		{"~=", "4:~@0 4:=@1"}, {"^==", "4:^=@0 4:=@2"}, {"*/", "4:*@0 4:/@1"}, {"? :", "4:?@0 4::@2"},
		{"< <=", "4:<@0 4:<=@2"}, {"&/**/&", "4:&@0 4:&@5"},
	})
}

// longestSign looks a sign up in the document's list, in which length is all that counts.
func longestSign(text string) string {
	best := ""
	for _, s := range signs {
		if strings.HasPrefix(text, s) && len(s) > len(best) {
			best = s
		}
	}
	return best
}

func TestLongestSign(t *testing.T) {
	for _, a := range signs {
		for _, b := range signs {
			text := a + b
			if strings.Contains(text, "//") || strings.Contains(text, "/*") {
				continue
			}
			var want []api.Token
			for at := 0; at < len(text); {
				s := longestSign(text[at:])
				want = append(want, api.Token{Kind: api.TokSign, Text: s, At: at})
				at += len(s)
			}
			scanAll(t, []scanCase{{text, show(want)}})
		}
	}
}

func TestNumbers(t *testing.T) {
	scanAll(t, []scanCase{
		{"0", "2:0=0@0"}, {"7", "2:7=7@0"}, {"10", "2:10=10@0"}, {"1234567890", "2:1234567890=1234567890@0"},
		{"0x0", "2:0x0=0@0"}, {"0X1f", "2:0X1f=31@0"}, {"0xaBcDeF", "2:0xaBcDeF=11259375@0"}, {"0x0009", "2:0x0009=9@0"},
		{"0x10", "2:0x10=16@0"}, {"0X0123456789", "2:0X0123456789=4886718345@0"},
		{"9223372036854775807", "2:9223372036854775807=9223372036854775807@0"},
		{"0x7fffffffffffffff", "2:0x7fffffffffffffff=9223372036854775807@0"},
		{"0x00000000000000000000007FFFFFFFFFFFFFFF", "2:0x00000000000000000000007FFFFFFFFFFFFFFF=9223372036854775807@0"},
		{"-1", "4:-@0 2:1=1@1"}, {"0 0", "2:0=0@0 2:0=0@2"}, {"1-2", "2:1=1@0 4:-@1 2:2=2@2"}, {"0'0'", "2:0=0@0 2:'0'=48@1"},
	})
	faultAll(t, []faultCase{
		{"00", api.Fault{Code: api.ErrText}}, {"09", api.Fault{Code: api.ErrText}}, {"07", api.Fault{Code: api.ErrText}},
		{"0x", api.Fault{Code: api.ErrText}}, {"0X", api.Fault{Code: api.ErrText}}, {"0xg", api.Fault{Code: api.ErrText}},
		{"0x1_0", api.Fault{Code: api.ErrText}}, {"1_000", api.Fault{Code: api.ErrText}}, {"0_1", api.Fault{Code: api.ErrText}},
		{"1a", api.Fault{Code: api.ErrText}}, {"12if", api.Fault{Code: api.ErrText}}, {"0b1", api.Fault{Code: api.ErrText}},
		{"0o7", api.Fault{Code: api.ErrText}}, {"1e5", api.Fault{Code: api.ErrText}}, {"0_", api.Fault{Code: api.ErrText}},
		{"1x2", api.Fault{Code: api.ErrText}}, {"0x0x0", api.Fault{Code: api.ErrText}}, {"00x1", api.Fault{Code: api.ErrText}},
		{"1 2z", api.Fault{Code: api.ErrText, At: 2}}, {"x=0x;", api.Fault{Code: api.ErrText, At: 2}},
		{"9223372036854775808", api.Fault{Code: api.ErrRange}}, {"0x8000000000000000", api.Fault{Code: api.ErrRange}},
		{"0xffffffffffffffff", api.Fault{Code: api.ErrRange}}, {"18446744073709551616", api.Fault{Code: api.ErrRange}},
		{"0x10000000000000001", api.Fault{Code: api.ErrRange}}, {"-9223372036854775808", api.Fault{Code: api.ErrRange, At: 1}},
		{"a 99999999999999999999 @", api.Fault{Code: api.ErrRange, At: 2}},
		// Of one number ErrText comes first, even if what is wrong with it stands behind.
		{"99999999999999999999a", api.Fault{Code: api.ErrText}}, {"0xffffffffffffffffffffg", api.Fault{Code: api.ErrText}},
		{"099999999999999999999", api.Fault{Code: api.ErrText}}, {"1.5", api.Fault{Code: api.ErrText, At: 1}},
	})
}

func TestCharacters(t *testing.T) {
	for c := 0; c < 256; c++ {
		plain := "'" + string([]byte{byte(c)}) + "'"
		if c >= 32 && c <= 126 && c != '\'' && c != '\\' {
			scanAll(t, []scanCase{{" " + plain, fmt.Sprintf("2:%s=%d@1", plain, c)}})
		} else {
			faultAll(t, []faultCase{{" " + plain, api.Fault{Code: api.ErrText, At: 1}}})
		}
		escaped := "'\\" + string([]byte{byte(c)}) + "'"
		if at := strings.IndexByte(`n0\'`, byte(c)); at >= 0 {
			scanAll(t, []scanCase{{escaped, fmt.Sprintf("2:%s=%d@0", escaped, []int{10, 0, 92, 39}[at])}})
		} else {
			faultAll(t, []faultCase{{escaped, api.Fault{Code: api.ErrText}}})
		}
	}
	scanAll(t, []scanCase{
		{"'a'b", "2:'a'=97@0 1:b@3"}, {"'a''b'", "2:'a'=97@0 2:'b'=98@3"}, {"'/''*'", "2:'/'=47@0 2:'*'=42@3"},
		{`'\\''\''`, `2:'\\'=92@0 2:'\''=39@4`}, {"a'a'", "1:a@0 2:'a'=97@1"}, {"'\"'", "2:'\"'=34@0"},
	})
	for _, text := range []string{"'", "''", "'''", "'a", "'ab'", "'a '", `'\`, `'\'`, `'\n`, `'\nn'`, `'\\`, `'\00'`, `'\x0'`, "'é'", "''a'"} {
		faultAll(t, []faultCase{{text, api.Fault{Code: api.ErrText}}, {"x " + text, api.Fault{Code: api.ErrText, At: 2}}})
	}
}

func TestBlanks(t *testing.T) {
	scanAll(t, []scanCase{
		{"", ""}, {" ", ""}, {" \t\n\n", ""}, {"\ta\n b \n", "1:a@1 1:b@4"}, {"a b", "1:a@0 1:b@2"}, {"+ +", "4:+@0 4:+@2"},
	})
	for c := 0; c < 256; c++ {
		text := "a" + string([]byte{byte(c)}) + "b"
		if c == 32 || c == 9 || c == 10 {
			scanAll(t, []scanCase{{text, "1:a@0 1:b@2"}})
		} else if c < 32 || c > 126 || strings.IndexByte("\"#$.@\\`'", byte(c)) >= 0 {
			faultAll(t, []faultCase{{text, api.Fault{Code: api.ErrText, At: 1}}})
		}
	}
}

func TestComments(t *testing.T) {
	scanAll(t, []scanCase{
		{"//", ""}, {"// a", ""}, {"a//", "1:a@0"}, {"a// b", "1:a@0"}, {"a//b\nc", "1:a@0 1:c@5"}, {"//\n", ""}, {"//\r\x00\xff\nx", "1:x@6"},
		{"// /*\nx", "1:x@6"}, {"///*\nx", "1:x@5"}, {"// a */ b\nx", "1:x@10"},
		{"/**/", ""}, {"/***/", ""}, {"/* * / */a", "1:a@9"}, {"/*/*/a", "1:a@5"}, {"a/**/b", "1:a@0 1:b@5"}, {"/*\n\n*/ a", "1:a@7"},
		{"/* // */a", "1:a@8"}, {"/*a*/*/", "4:*@5 4:/@6"}, {"/* /* */ a", "1:a@9"}, {"/*\x00\xff@'*/a", "1:a@8"},
		{"a/b", "1:a@0 4:/@1 1:b@2"}, {"a/=b", "1:a@0 4:/=@1 1:b@3"}, {"a/ /b", "1:a@0 4:/@1 4:/@3 1:b@4"}, {"a/ *b", "1:a@0 4:/@1 4:*@3 1:b@4"},
		{"a//**/b\nc", "1:a@0 1:c@8"}, {"i/**/nt", "1:i@0 1:nt@5"}, {"1/**/2", "2:1=1@0 2:2=2@5"}, {"/**/ /**/ // \n\t/**/x//", "1:x@19"},
		{"a /", "1:a@0 4:/@2"}, {"'/' // '", "2:'/'=47@0"},
	})
	faultAll(t, []faultCase{
		{"/*", api.Fault{Code: api.ErrText}}, {"/*/", api.Fault{Code: api.ErrText}}, {"/* *", api.Fault{Code: api.ErrText}},
		{"/* * /", api.Fault{Code: api.ErrText}}, {"a /* b", api.Fault{Code: api.ErrText, At: 2}}, {"a/*\n//*", api.Fault{Code: api.ErrText, At: 1}},
		{"/**/ // /*\n /* /*", api.Fault{Code: api.ErrText, At: 12}}, {"/**/*/ /*", api.Fault{Code: api.ErrText, At: 7}},
	})
}
