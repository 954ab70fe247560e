// Package token cuts a text into words.
package token

import (
	"strings"

	"turnery/api"
)

// Scan a text: its words.
func Scan(text string) ([]api.Token, api.Fault) {
	if len(text) > api.MaxText {
		return nil, api.Fault{Code: api.ErrMany}
	}
	skip, take := cutter(text)
	var list []api.Token
	for {
		at, f := skip()
		if f.Code != api.OK {
			return nil, f
		}
		if at == len(text) {
			return list, api.Fault{}
		}
		if len(list) == api.MaxTokens {
			return nil, api.Fault{Code: api.ErrMuch, At: at}
		}
		t, f := take()
		if f.Code != api.OK {
			return nil, f
		}
		list = append(list, t)
	}
}

// cutter gives two functions that go on through text from where the other one stopped.
// skip leaves out blanks and comments and tells where it stops; take cuts off the token there.
func cutter(text string) (skip func() (int, api.Fault), take func() (api.Token, api.Fault)) {
	at := 0
	skip = func() (int, api.Fault) {
		n, open := gap(text[at:])
		at += n
		if open {
			return 0, api.Fault{Code: api.ErrText, At: at}
		}
		return at, api.Fault{}
	}
	take = func() (api.Token, api.Fault) {
		t, code := first(text[at:])
		if code != api.OK {
			return api.Token{}, api.Fault{Code: code, At: at}
		}
		t.At = at
		at += len(t.Text)
		// A token must not keep the whole source text alive.
		t.Text = strings.Clone(t.Text)
		return t, api.Fault{}
	}
	return skip, take
}

// Text of words: one blank between each two.
func Text(l []api.Token) (string, api.Fault) {
	if len(l) > api.MaxTokens {
		return "", api.Fault{Code: api.ErrMany}
	}
	size := 0
	for i, t := range l {
		if code := check(t); code != api.OK {
			return "", api.Fault{Code: code, At: i}
		}
		if i > 0 {
			size++
		}
		size += len(t.Text)
	}
	if size > api.MaxText {
		return "", api.Fault{Code: api.ErrMuch}
	}
	return join(l, size), api.Fault{}
}

// join copies the texts even if there is only one, which strings.Join would share.
func join(l []api.Token, size int) string {
	var b strings.Builder
	b.Grow(size)
	for i, t := range l {
		if i > 0 {
			b.WriteByte(' ')
		}
		b.WriteString(t.Text)
	}
	return b.String()
}

// check tells what is wrong with a token by itself.
// It does not use Scan: a number with many zeros ahead may be longer than MaxText.
func check(t api.Token) int {
	if t.Kind < api.TokName || t.Kind > api.TokSign {
		return api.ErrKind
	}
	got, code := first(t.Text)
	if code != api.OK || got.Kind != t.Kind || got.Text != t.Text || got.N != t.N || t.At < 0 {
		return api.ErrForm
	}
	return api.OK
}
