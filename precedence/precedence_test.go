package precedence

import (
	"strings"
	"testing"
)

// TestOf compares with the list of R3.1, whose first line no operator of Of is from.
func TestOf(t *testing.T) {
	for k, signs := range []string{"= += -= *= /= %= &= |= ^= <<= >>= ? :", "||", "&&", "|", "^", "&", "== !=", "< <= > >=", "<< >>", "+ -", "* / %"} {
		want := 0
		if k > 0 {
			want = k + 1
		}
		for _, sign := range strings.Fields(signs) {
			if got := Of(sign); got != want {
				t.Errorf("Of(%q) = %d; want %d", sign, got, want)
			}
		}
	}
	for _, text := range []string{"", " ", "!", "~", "++", "--", "(", "[", "x", "+ ", "<>", "===", "if"} {
		if got := Of(text); got != 0 {
			t.Errorf("Of(%q) = %d; want 0", text, got)
		}
	}
}
